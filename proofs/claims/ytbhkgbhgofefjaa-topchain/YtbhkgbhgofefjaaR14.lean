/- Do both tell the same? -/
import Derived.Test.YtbhkgbhgofefjaaR13
import Derived.Deep.DrawnRows
namespace Go.Proofs.Ytbhkgbhgofefjaa
open Go.RowKit
set_option linter.unusedVariables false
attribute [local go_sem ↓] Go.wp_at_zero Go.wp_at_succ
theorem below_drewN {B : Nat} {w w1 : World} (h : Below B w w1) (q : Nat) : Below B w (w1.drewN q) := ⟨h.os, h.tape, h.output, h.size, h.block⟩
theorem IL.slice {w : World} {base : Nat} {v : Value} {xs : List Int} (h : IL w base v xs) : ∃ a cap, v = .slice a xs.length cap := (by obtain ⟨a, cap, e, _, _⟩ := form_of h; exact ⟨a, cap, e⟩)
theorem IL.cells {w : World} {base : Nat} {v : Value} {xs : List Int} (h : IL w base v xs) (hx : xs ≠ []) : ∃ g cap, v = .slice (some ⟨g, 0, none⟩) xs.length cap ∧ base ≤ g ∧ g < w.heap.size ∧ ∀ j, j < xs.length → w.cell? ⟨g, j, none⟩ = some (.int .i64 (xs.getD j 0)) := by
  have hpos : 0 < xs.length := List.length_pos_iff.2 hx
  obtain ⟨g, cap, rfl, h1, h2⟩ := World.ownsRow.form h hpos
  refine ⟨g, cap, rfl, h1, h2, fun j hj => ?_⟩
  rw [World.ownsRow.cellAt h j (by omega)]
  simp [List.getD, hj]
set_option maxHeartbeats 1000000 in
theorem same_walk (w : World) (ga gb len ca cb : Nat) (xs : Nat → Int) (hl : len ≤ 1024)
    (hca : ∀ j, j < len → w.cell? ⟨ga, j, none⟩ = some (.int .i64 (xs j))) (hcb : ∀ j, j < len → w.cell? ⟨gb, j, none⟩ = some (.int .i64 (xs j))) :
    Calls Try.prog 37 #[.slice (some ⟨ga, 0, none⟩) len ca, .slice (some ⟨gb, 0, none⟩) len cb] w fun e w' => e = .returned (.bool true) ∧ ∃ q, w' = w.drewN q := by
  have HA := veil hca
  have HB := veil hcb
  clear hca hcb
  go_enter Try.func37, Try.ntmps37
  go_wp2
  go_loopw [5] (fun i wr => ∃ j q : Nat, j ≤ len ∧ i = .int .i64 j ∧ wr = w.drewN q) (fun i _ => len - (intOf i).toNat)
  case atStart => exact ⟨0, 0, by omega, rfl, rfl⟩
  case round =>
    obtain ⟨j, q, hj, rfl, rfl⟩ := hrel
    by_cases hjl : j < len
    · have e1 := HA.out j hjl
      have e2 := HB.out j hjl
      go_wp2
      go_quiet (fail)
      go_wp2
      go_roundw
      case rel => exact ⟨j + 1, _, by omega, by go_num, rfl⟩
      case measure => simp [intOf]; omega
    · go_wp2
      go_ret
      exact ⟨rfl, _, rfl⟩
theorem same_empty (w : World) (a b : Option Addr) (ca cb : Nat) :
    Calls Try.prog 37 #[.slice a 0 ca, .slice b 0 cb] w fun e w' => e = .returned (.bool true) ∧ ∃ q, w' = w.drewN q := by
  go_enter Try.func37, Try.ntmps37
  go_wp2
  go_loopw [5] (fun i wr => i = .int .i64 0 ∧ wr = w) (fun i _ => 0)
  case atStart => exact ⟨rfl, rfl⟩
  case round =>
    obtain ⟨rfl, rfl⟩ := hrel
    go_wp2
    go_ret
    exact ⟨rfl, 0, rfl⟩
theorem same_yes (w : World) (b1 b2 : Nat) (v1 v2 : Value) (xs : List Int) (hl : xs.length ≤ 1024) (h1 : IL w b1 v1 xs) (h2 : IL w b2 v2 xs) :
    Calls Try.prog 37 #[v1, v2] w fun e w' => e = .returned (.bool true) ∧ ∃ q, w' = w.drewN q := by
  by_cases hx : xs = []
  · subst hx
    obtain ⟨a, ca, rfl⟩ := h1.slice
    obtain ⟨b, cb, rfl⟩ := h2.slice
    exact same_empty w a b ca cb
  · obtain ⟨ga, ca, rfl, _, _, c1⟩ := h1.cells hx
    obtain ⟨gb, cb, rfl, _, _, c2⟩ := h2.cells hx
    exact same_walk w ga gb xs.length ca cb (fun j => xs.getD j 0) hl c1 c2

theorem IL.below {w w' : World} {base : Nat} {v : Value} {xs : List Int} (h : IL w base v xs) (hb : Below w.heap.size w w') : IL w' base v xs := ownsRow_far h (fun k hk => hb.block k (ownsRow_blk h hk).2.1)
@[go_sem high] theorem neqB (a b : K) (w : World) : (binOp .neq 36 (.agg #[.bool a.e, .int .u64 a.d, .int .u8 a.l]) (.agg #[.bool b.e, .int .u64 b.d, .int .u8 b.l])).run Try.prog w = .ok (.bool (!same a b)) w := by
  simp [binOp, go_sem]
theorem same_self (a : K) : same a a = true := by simp [same]
section
variable {w w' : World} {b g r : Nat} {O D : Nat → Prop} {M : Md}
theorem heldA_len (f : Fine M.T M.L) (t : Int) : (heldA M.T M.L t).length ≤ 1024 := by
  have := f.l2
  unfold heldA
  split
  · have := heldOf_len M.L t; omega
  · simp
theorem waiters_len (f : Fine M.T M.L) (m : Int) : ((waitersOf M.L m).map (fun (t : Nat) => (t : Int))).length ≤ 1024 := by
  have := f.t2
  rw [List.length_map]
  unfold waitersOf
  split
  · rename_i h
    obtain ⟨k, y, rfl, hk, hy, _⟩ := inL_yes h
    rw [Int.toNat_natCast, hy]
    have := f.short (List.mem_of_getElem? hy)
    simp
    omega
  · simp
set_option maxRecDepth 100000 in
set_option maxHeartbeats 4000000 in
theorem same_ok (h : Both w b O D g r M) : Calls Try.prog 16 #[.pointer (some ⟨g, 0, none⟩), .pointer (some ⟨r, 0, none⟩)] w fun e w' => e = .returned (.bool true) ∧ Below w.heap.size w w' := by
  have HH := veil (fun W (hb : Below w.heap.size w W) => h.below hb)
  have HF := veil h.p.f
  clear h
  go_enter Try.func16, Try.ntmps16
  go_wp2
  go_loopw [5] (fun p wr => ∃ j : Nat, j ≤ 9 ∧ p = .int .i64 ((j : Int) - 1) ∧ Below w.heap.size w wr) (fun p _ => (8 - intOf p).toNat)
  case atStart => exact ⟨0, by omega, rfl, Below.refl _ _⟩
  case round =>
    obtain ⟨j, hj, rfl, hbe⟩ := hrel
    have HB := veil hbe
    clear hbe
    by_cases hjl : j < 9
    · have hjl' : (j : Int) - 1 < 8 := by omega
      have hwr : wrap64 ((j : Int) - 1 + 1) = (j : Int) := by unfold wrap64; omega
      have hwr2 : IntKind.i64.wrap ((j : Int) - 1 + 1) = (j : Int) := by simp [IntKind.wrap, IntKind.bits, IntKind.signed]; omega
      obtain ⟨tt, htt⟩ : ∃ tt, tt = (j : Int) - 1 := ⟨_, rfl⟩
      rw [← htt] at hjl' ⊢
      have HTT := veil htt
      have hss := same_self (keyA M.T M.L tt)
      have HKp := veil (fun W hb => (HH.out W hb).p.key tt)
      have HKr := veil (fun W hb => (HH.out W hb).r.key tt)
      have HWp := veil (fun W hb => (HH.out W hb).p.waits tt)
      have HWr := veil (fun W hb => (HH.out W hb).r.waits tt)
      have HHp := veil (fun W hb => (HH.out W hb).p.held tt)
      have HHr := veil (fun W hb => (HH.out W hb).r.held tt)
      have HLN := veil (heldA_len HF.out tt)
      generalize keyA M.T M.L tt = kk at HKp HKr hss
      generalize waitsOf M.T tt = ww at HWp HWr
      generalize heldA M.T M.L tt = hl at HHp HHr HLN
      rw [← htt] at hwr hwr2
      clear htt
      go_wp2_with (first
        | (go_at_call 24; refine (HKp.out _ HB.out).mono ?_; rintro e w1 ⟨rfl, hb⟩; have HB1 := veil (HB.out.trans (hb.mono HB.out.size)); clear hb)
        | (go_at_call 35; refine (HKr.out _ HB1.out).mono ?_; rintro e w2 ⟨rfl, hb⟩; have HB2 := veil (HB1.out.trans (hb.mono HB1.out.size)); clear hb)
        | (go_at_call 20; refine (HWp.out _ HB2.out).mono ?_; rintro e wx ⟨rfl, hw⟩; replace hw := hw.symm; subst hw)
        | (go_at_call 36; refine (HWr.out _ HB2.out).mono ?_; rintro e wx ⟨rfl, hw⟩; replace hw := hw.symm; subst hw)
        | (go_at_call 17; refine (HHp.out _ HB2.out).mono ?_; rintro e w3 ⟨v3, rfl, hil, hb⟩; have HB3 := veil (HB2.out.trans (hb.mono HB2.out.size)); have HI3 := veil hil; clear hb hil)
        | (go_at_call 38; refine (HHr.out _ HB3.out).mono ?_; rintro e w4 ⟨v4, rfl, hil, hb⟩; have HB4 := veil (HB3.out.trans (hb.mono HB3.out.size)); have HI4 := veil hil; have HI3' := veil (HI3.out.below hb); clear hb hil)
        | (go_at_call 37; refine (same_yes _ _ _ _ _ _ HLN.out HI3'.out HI4.out).mono ?_; rintro e w5 ⟨rfl, q, rfl⟩; have HB5 := veil (below_drewN HB4.out q)))
      have ht := HTT.out
      refine ⟨⟨j + 1, by omega, by congr 1; omega, HB5.out⟩, ?_⟩
      simp [intOf]
      omega
    · obtain rfl : j = 9 := by omega
      have e9 : ((9 : Nat) : Int) - 1 = 8 := rfl
      rw [e9]
      clear e9
      go_wp2
      go_loopw [6] (fun p wr => ∃ j : Nat, j ≤ 7 ∧ p = .int .i64 ((j : Int) - 1) ∧ Below w.heap.size w wr) (fun p _ => (6 - intOf p).toNat)
      case atStart => exact ⟨0, by omega, rfl, HB.out⟩
      case round =>
        obtain ⟨j, hj, rfl, hbe⟩ := hrel
        have HB := veil hbe
        clear hbe
        by_cases hjl : j < 7
        · have hjl' : (j : Int) - 1 < 6 := by omega
          have hwr : wrap64 ((j : Int) - 1 + 1) = (j : Int) := by unfold wrap64; omega
          have hwr2 : IntKind.i64.wrap ((j : Int) - 1 + 1) = (j : Int) := by simp [IntKind.wrap, IntKind.bits, IntKind.signed]; omega
          obtain ⟨tt, htt⟩ : ∃ tt, tt = (j : Int) - 1 := ⟨_, rfl⟩
          rw [← htt] at hjl' ⊢
          have HTT := veil htt
          have HOp := veil (fun W hb => (HH.out W hb).p.owner tt)
          have HOr := veil (fun W hb => (HH.out W hb).r.owner tt)
          have HWp := veil (fun W hb => (HH.out W hb).p.waiters tt)
          have HWr := veil (fun W hb => (HH.out W hb).r.waiters tt)
          have HLN := veil (waiters_len HF.out tt)
          generalize ownerOf M.L tt = ww at HOp HOr
          generalize (waitersOf M.L tt).map (fun (t : Nat) => (t : Int)) = hl at HWp HWr HLN
          rw [← htt] at hwr hwr2
          clear htt
          go_wp2_with (first
            | (go_at_call 18; refine (HOp.out _ HB.out).mono ?_; rintro e wx ⟨rfl, hw⟩; replace hw := hw.symm; subst hw)
            | (go_at_call 39; refine (HOr.out _ HB.out).mono ?_; rintro e wx ⟨rfl, hw⟩; replace hw := hw.symm; subst hw)
            | (go_at_call 19; refine (HWp.out _ HB.out).mono ?_; rintro e w3 ⟨v3, rfl, hil, hb⟩; have HB3 := veil (HB.out.trans (hb.mono HB.out.size)); have HI3 := veil hil; clear hb hil)
            | (go_at_call 40; refine (HWr.out _ HB3.out).mono ?_; rintro e w4 ⟨v4, rfl, hil, hb⟩; have HB4 := veil (HB3.out.trans (hb.mono HB3.out.size)); have HI4 := veil hil; have HI3' := veil (HI3.out.below hb); clear hb hil)
            | (go_at_call 37; refine (same_yes _ _ _ _ _ _ HLN.out HI3'.out HI4.out).mono ?_; rintro e w5 ⟨rfl, q, rfl⟩; have HB5 := veil (below_drewN HB4.out q)))
          have ht := HTT.out
          go_roundw
          case rel => exact ⟨j + 1, by omega, by congr 1; omega, HB5.out⟩
          case measure => simp [intOf]; omega
        · obtain rfl : j = 7 := by omega
          go_wp2
          go_ret
          exact ⟨rfl, HB.out⟩
end
end Go.Proofs.Ytbhkgbhgofefjaa
