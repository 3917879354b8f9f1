/-
  For every levels TopLevels answers true: the highest bit of a queue's mask is always the level of what comes next, till it is empty. No condition.
-/
import Derived.Test.YtjhhhmeoahbagadRows
import Derived.Test.YtjhhhmeoahbagadQ10
import Derived.WalkKit
import Derived.ProofKit
import Derived.OpenShut
import Derived.ShutString
import Derived.ChangeOld
import Derived.Below
namespace Go.Proofs.Ytjhhhmeoahbagad.topLevels
open Go.ChangeShapes Go.WideShapes Go.ChangeAt Go.RowKit
open Go.ChangeMaps (open_string shut_string)
set_option linter.unusedVariables false

theorem own : ownKnob Try.prog.godebug = none := by kernel_rfl
theorem laidOut : laidOutB Try.prog = true := by kernel_rfl

/-- WHAT THE WALK IS TOLD OF A SLICE OF INTEGERS THAT CAME IN: it is nil; or it leads to a row of 'cap' cells, the numbers 'zs' (the first 'len' are its elements, the rest its spare room), each fitting its kind. -/
def IsRow (k : IntKind) (w : World) (a : Option Addr) (len cap : Nat) (zs : List Int) : Prop :=
  (a = none ∧ len = 0 ∧ cap = 0 ∧ zs = []) ∨
  ∃ x, a = some x ∧ len ≤ cap ∧ cap ≤ maxLen ∧ zs.length = cap ∧ (∀ i, i < zs.length → w.cell? (x.add i) = some (.int k (zs.getD i 0))) ∧ ∀ n ∈ zs, (Lit.int k n).wf = true

open Go.Lib
theorem pop_below {w wr w2 : World} {d1 d2 : Array Value} {t : TypeId} (h : Below w.heap.size w wr) (ho : Only (w.heap.size + 1) w.heap.size ((wr.alloc (.cells d1 t)).alloc (.cells d2 t)) w2) : Below w.heap.size w w2 := by
  have h1 : Below w.heap.size w ((wr.alloc (.cells d1 t)).alloc (.cells d2 t)) := (h.alloc h.size _).alloc (by have := h.size; simp; omega) _
  exact h1.trans (ho.below (by omega) (by omega) (by have := h.size; simp; omega))
theorem pop_cell {w w2 : World} {b0 o : Nat} {v : Value} (h : Below w.heap.size w w2) (hb : b0 < w.heap.size) (hc : w.cell? ⟨b0, o, none⟩ = some v) : w2.cell? ⟨b0, o, none⟩ = some v := by
  rw [← hc]
  exact h.cell (p := ⟨b0, o, none⟩) hb

set_option maxHeartbeats 4000000 in
theorem some_way (b0 off len cap : Nat) (zs : Nat → Nat) (w : World) (h1 : 1 ≤ len) (hcm : len ≤ 9223372036854775807) (hzs : ∀ i, i < len → zs i < 256)
    (hc : ∀ i, i < len → w.cell? ⟨b0, off + i, none⟩ = some (.int .u8 (zs i))) :
    Calls Try.prog 3 #[.slice (some ⟨b0, off, none⟩) len cap] w fun e w' => e = .returned (.bool true) ∧ Below w.heap.size w w' := by
  have hb0 : b0 < w.heap.size := World.block_lt_of_cell? w ⟨b0, off + 0, none⟩ (hc 0 (by omega))
  have hN := new_ok 64 w (by decide) (by decide)
  have HN := veil hN
  clear hN
  go_enter Try.func3, Try.ntmps3
  go_wp2_with (go_at_call 5; refine (HN.out).mono ?_; rintro e w0 ⟨rfl, hq0, hb00⟩; have HQ0 := veil hq0; have HB0 := veil hb00; clear hq0 hb00)
  go_loopw [4, 5] (fun nn i wr => ∃ k : Nat, k ≤ len ∧ k ≤ 64 ∧ nn = .int .i64 k ∧ i = .int .i64 k ∧ IsQ wr (w.heap.size + 1) w.heap.size 64 (RL zs k) ∧ Below w.heap.size w wr) (fun _ i _ => 64 - (intOf i).toNat)
  case atStart => exact ⟨0, by omega, by omega, rfl, rfl, HQ0.out, HB0.out⟩
  case round =>
    obtain ⟨k, hkl, hk64, rfl, rfl, hq, hbel⟩ := hrel
    have hcase : (k < len ∧ k < 64) ∨ (¬ k < len) ∨ (k < len ∧ ¬ k < 64) := by omega
    rcases hcase with ⟨g1, g2⟩ | g1 | ⟨g1, g2⟩
    · have hce := pop_cell hbel hb0 (hc k g1)
      have HP := veil (push_ok wr (w.heap.size + 1) w.heap.size 64 (RL zs k) k (zs k) hq (by omega) (hzs k g1) (fun it hit => by have := (RL_mem zs k it hit).1; omega))
      have HB := veil hbel
      have HC := veil hc
      clear hq hbel hc
      go_wp2_with (go_at_call 6; refine (HP.out).mono ?_; rintro e w2 ⟨rfl, hq2, ho⟩; have HQ2 := veil hq2; have HO := veil ho; clear hq2 ho)
      go_roundw
      case rel => exact ⟨k + 1, by omega, by omega, by go_num, by go_num, by rw [RL_succ]; exact HQ2.out, HB.out.trans (HO.out.below (by omega) (by omega) HB.out.size)⟩
      case measure => simp [intOf]; omega
    · have g0 : ¬ (k : Int) < (len : Int) := by omega
      -- the second loop: each that is popped
      have hlen := RL_len zs k
      have hall := RL_mem zs k
      generalize hRR : RL zs k = R0 at *
      clear hRR
      have HQ0 := veil hq
      have HB0 := veil hbel
      have HL0 := veil hlen
      have HA0 := veil hall
      clear hq hbel hlen hall
      go_wp2
      go_loopw [6] (fun i wr => ∃ (j : Nat) (R : List (Nat × Nat)), j ≤ k ∧ i = .int .i64 j ∧ R.length = k - j ∧ (∀ it ∈ R, it.1 < k ∧ it.2 = zs it.1) ∧ IsQ wr (w.heap.size + 1) w.heap.size 64 R ∧ Below w.heap.size w wr) (fun i _ => k - (intOf i).toNat)
      case atStart => exact ⟨0, R0, by omega, rfl, HL0.out, HA0.out, HQ0.out, HB0.out⟩
      case round =>
        obtain ⟨j, R, hj, rfl, hRl, hRa, hRq, hRb⟩ := hrel
        by_cases hjl : j < k
        · obtain ⟨lv, id, rest, hbest, hql⟩ := best_exists R (by intro e; subst e; simp at hRl; omega) (fun it hit => (hRq.rng it hit).2)
          obtain ⟨m0, m1, m2, m3, hMa, hHi⟩ := mask_best _ _ _ _ _ lv hRq hbest
          obtain ⟨R1', R2', hsp, _⟩ := head_split R lv id rest hql
          have hit := hRa (id, lv) (by rw [hsp]; simp)
          have hlvz : zs id = lv := hit.2.symm
          have hidk : id < k := hit.1
          have HMa := veil hMa
          have HHi := veil hHi
          have HPo := veil (fun w' (hw : Below wr.heap.size wr w') => pop_some w' (w.heap.size + 1) w.heap.size 64 R id lv rest (hRq.below hw) hbest hql)
          have HRb := veil hRb
          have HRa := veil hRa
          have HRl := veil hRl
          have HC := veil hc
          have HZ := veil hlvz
          have hlvb : lv < 256 := hbest.1
          clear hMa hHi hRq hbest hql hsp hit hlvz hRb hRa hRl hc
          go_wp2_with (first
            | (go_at_call 8; refine (HMa.out).mono ?_; rintro e w1 ⟨rfl, d1, hw⟩; subst hw)
            | (go_at_call 7; refine (HHi.out _).mono ?_; rintro e w1 ⟨rfl, d2, hw⟩; subst hw)
            | (go_at_call 9; refine (HPo.out _ (((Below.refl _ _).alloc (Nat.le_refl _) _).alloc (by simp) _)).mono ?_; rintro e w2 ⟨rfl, ⟨R1, R2, hR, hq2⟩, ho⟩; have HB2 := veil (pop_below HRb.out ho); have hce := (pop_cell HB2.out hb0 (HC.out id (by omega))); rw [HZ.out] at hce; have HQ2 := veil hq2; have HR := veil hR; clear hq2 ho hR))
          go_roundw
          case rel =>
            refine ⟨j + 1, R1 ++ R2, by omega, by go_num, ?_, ?_, HQ2.out, HB2.out⟩
            · have h1 := HRl.out
              rw [HR.out] at h1
              simp at h1 ⊢
              omega
            · intro it hit
              refine HRa.out it ?_
              rw [HR.out]
              rcases List.mem_append.1 hit with q | q
              · exact List.mem_append_left _ q
              · exact List.mem_append_right _ (List.mem_cons_of_mem _ q)
          case measure => simp [intOf]; omega
        · have hjk : j = k := by omega
          subst hjk
          have hR0 : R = [] := List.length_eq_zero_iff.1 (by omega)
          subst hR0
          obtain ⟨m0, m1, m2, m3, hMa, hHi⟩ := mask_none _ _ _ _ hRq
          have HMa := veil hMa
          have HHi := veil hHi
          have HLe := veil (len_is _ _ _ _ _ hRq)
          have HRb := veil hRb
          clear hMa hHi hRq hRb hRa hRl hc
          go_wp2_with (first
            | (go_at_call 10; refine (HLe.out).mono ?_; rintro e w1 ⟨rfl, hw⟩; subst hw)
            | (go_at_call 8; refine (HMa.out).mono ?_; rintro e w1 ⟨rfl, d1, hw⟩; subst hw)
            | (go_at_call 7; refine (HHi.out _).mono ?_; rintro e w1 ⟨rfl, d2, hw⟩; subst hw))
          go_ret
          exact ⟨rfl, (HRb.out.alloc HRb.out.size _).alloc (by have := HRb.out.size; simp; omega) _⟩
    · have g3 : (k : Int) < (len : Int) := by omega
      have g4 : ¬ (k : Int) < 64 := by omega
      -- the second loop: each that is popped
      have hlen := RL_len zs k
      have hall := RL_mem zs k
      generalize hRR : RL zs k = R0 at *
      clear hRR
      have HQ0 := veil hq
      have HB0 := veil hbel
      have HL0 := veil hlen
      have HA0 := veil hall
      clear hq hbel hlen hall
      go_wp2
      go_loopw [6] (fun i wr => ∃ (j : Nat) (R : List (Nat × Nat)), j ≤ k ∧ i = .int .i64 j ∧ R.length = k - j ∧ (∀ it ∈ R, it.1 < k ∧ it.2 = zs it.1) ∧ IsQ wr (w.heap.size + 1) w.heap.size 64 R ∧ Below w.heap.size w wr) (fun i _ => k - (intOf i).toNat)
      case atStart => exact ⟨0, R0, by omega, rfl, HL0.out, HA0.out, HQ0.out, HB0.out⟩
      case round =>
        obtain ⟨j, R, hj, rfl, hRl, hRa, hRq, hRb⟩ := hrel
        by_cases hjl : j < k
        · obtain ⟨lv, id, rest, hbest, hql⟩ := best_exists R (by intro e; subst e; simp at hRl; omega) (fun it hit => (hRq.rng it hit).2)
          obtain ⟨m0, m1, m2, m3, hMa, hHi⟩ := mask_best _ _ _ _ _ lv hRq hbest
          obtain ⟨R1', R2', hsp, _⟩ := head_split R lv id rest hql
          have hit := hRa (id, lv) (by rw [hsp]; simp)
          have hlvz : zs id = lv := hit.2.symm
          have hidk : id < k := hit.1
          have HMa := veil hMa
          have HHi := veil hHi
          have HPo := veil (fun w' (hw : Below wr.heap.size wr w') => pop_some w' (w.heap.size + 1) w.heap.size 64 R id lv rest (hRq.below hw) hbest hql)
          have HRb := veil hRb
          have HRa := veil hRa
          have HRl := veil hRl
          have HC := veil hc
          have HZ := veil hlvz
          have hlvb : lv < 256 := hbest.1
          clear hMa hHi hRq hbest hql hsp hit hlvz hRb hRa hRl hc
          go_wp2_with (first
            | (go_at_call 8; refine (HMa.out).mono ?_; rintro e w1 ⟨rfl, d1, hw⟩; subst hw)
            | (go_at_call 7; refine (HHi.out _).mono ?_; rintro e w1 ⟨rfl, d2, hw⟩; subst hw)
            | (go_at_call 9; refine (HPo.out _ (((Below.refl _ _).alloc (Nat.le_refl _) _).alloc (by simp) _)).mono ?_; rintro e w2 ⟨rfl, ⟨R1, R2, hR, hq2⟩, ho⟩; have HB2 := veil (pop_below HRb.out ho); have hce := (pop_cell HB2.out hb0 (HC.out id (by omega))); rw [HZ.out] at hce; have HQ2 := veil hq2; have HR := veil hR; clear hq2 ho hR))
          go_roundw
          case rel =>
            refine ⟨j + 1, R1 ++ R2, by omega, by go_num, ?_, ?_, HQ2.out, HB2.out⟩
            · have h1 := HRl.out
              rw [HR.out] at h1
              simp at h1 ⊢
              omega
            · intro it hit
              refine HRa.out it ?_
              rw [HR.out]
              rcases List.mem_append.1 hit with q | q
              · exact List.mem_append_left _ q
              · exact List.mem_append_right _ (List.mem_cons_of_mem _ q)
          case measure => simp [intOf]; omega
        · have hjk : j = k := by omega
          subst hjk
          have hR0 : R = [] := List.length_eq_zero_iff.1 (by omega)
          subst hR0
          obtain ⟨m0, m1, m2, m3, hMa, hHi⟩ := mask_none _ _ _ _ hRq
          have HMa := veil hMa
          have HHi := veil hHi
          have HLe := veil (len_is _ _ _ _ _ hRq)
          have HRb := veil hRb
          clear hMa hHi hRq hRb hRa hRl hc
          go_wp2_with (first
            | (go_at_call 10; refine (HLe.out).mono ?_; rintro e w1 ⟨rfl, hw⟩; subst hw)
            | (go_at_call 8; refine (HMa.out).mono ?_; rintro e w1 ⟨rfl, d1, hw⟩; subst hw)
            | (go_at_call 7; refine (HHi.out _).mono ?_; rintro e w1 ⟨rfl, d2, hw⟩; subst hw))
          go_ret
          exact ⟨rfl, (HRb.out.alloc HRb.out.size _).alloc (by have := HRb.out.size; simp; omega) _⟩

set_option maxHeartbeats 4000000 in
theorem none_way (a : Option Addr) (cap : Nat) (w : World) :
    Calls Try.prog 3 #[.slice a 0 cap] w fun e w' => e = .returned (.bool true) ∧ Below w.heap.size w w' := by
  have hN := new_ok 64 w (by decide) (by decide)
  have HN := veil hN
  clear hN
  go_enter Try.func3, Try.ntmps3
  go_wp2_with (go_at_call 5; refine (HN.out).mono ?_; rintro e w0 ⟨rfl, hq0, hb00⟩; have HQ0 := veil hq0; have HB0 := veil hb00; clear hq0 hb00)
  go_loopw [4, 5] (fun nn i wr => nn = .int .i64 0 ∧ i = .int .i64 0 ∧ IsQ wr (w.heap.size + 1) w.heap.size 64 [] ∧ Below w.heap.size w wr) (fun _ _ _ => 0)
  case atStart => exact ⟨rfl, rfl, HQ0.out, HB0.out⟩
  case round =>
    obtain ⟨rfl, rfl, hq, hbel⟩ := hrel
    have HQ1 := veil hq
    have HB1 := veil hbel
    clear hq hbel
    go_wp2
    go_loopw [6] (fun i wr => i = .int .i64 0 ∧ IsQ wr (w.heap.size + 1) w.heap.size 64 [] ∧ Below w.heap.size w wr) (fun _ _ => 0)
    case atStart => exact ⟨rfl, HQ1.out, HB1.out⟩
    case round =>
      obtain ⟨rfl, hRq, hRb⟩ := hrel
      obtain ⟨m0, m1, m2, m3, hMa, hHi⟩ := mask_none _ _ _ _ hRq
      have HMa := veil hMa
      have HHi := veil hHi
      have HLe := veil (len_is _ _ _ _ _ hRq)
      have HRb := veil hRb
      clear hMa hHi hRq hRb
      go_wp2_with (first
        | (go_at_call 10; refine (HLe.out).mono ?_; rintro e w1 ⟨rfl, hw⟩; subst hw)
        | (go_at_call 8; refine (HMa.out).mono ?_; rintro e w1 ⟨rfl, d1, hw⟩; subst hw)
        | (go_at_call 7; refine (HHi.out _).mono ?_; rintro e w1 ⟨rfl, d2, hw⟩; subst hw))
      go_ret
      exact ⟨rfl, (HRb.out.alloc HRb.out.size _).alloc (by have := HRb.out.size; simp; omega) _⟩
theorem walk (a0 : Option Addr) (len0 cap0 : Nat) (z0 : List Int) (w : World) (w0 : IsRow .u8 w a0 len0 cap0 z0) :
    Calls Try.prog 3 #[.slice a0 len0 cap0] w fun e w' => e = .returned (.bool true) ∧ Below w.heap.size w w' := by
  rcases w0 with ⟨rfl, rfl, rfl, rfl⟩ | ⟨x, rfl, hl, hm, hz, hcell, hwz⟩
  · exact none_way none 0 w
  · by_cases h0 : len0 = 0
    · subst h0
      exact none_way _ cap0 w
    · obtain ⟨b, off, rfl, hc⟩ := ints_at hcell (by omega)
      have hu := range_u8 hwz
      refine some_way b off len0 cap0 (fun i => (z0.getD i 0).toNat) w (by omega) (by unfold maxLen at hm; omega) (fun i hi => ?_) (fun i hi => ?_)
      · have := hu i
        simp only [List.getD] at *
        omega
      · rw [hc i (by omega)]
        have := hu i
        simp only [List.getD] at *
        rw [Int.toNat_of_nonneg (by omega)]

set_option maxRecDepth 100000 in
theorem lifted (os : Os) (started : os.Started) (H : Type) (enc : TypeId × Value → H) :
    ReturnsInHanded {} Try.checked os 3 .any (Rows.topLevelsSpec.pre6 enc Try.prog Try.f3 Rows.topLevelsRow.domain false) (Rows.topLevelsSpec.post enc Try.prog Try.f3 false true false false) := by
  refine returnsInHanded_of_change (C := Try.checked) own started (by kernel_rfl) Try.func3
    (ChangeSpec.witness6 (enc := enc) (C := Try.checked) false ⟨#[], #[.slice none 0 0], []⟩ 8 (by kernel_rfl) (by kernel_rfl) (by kernel_rfl) (by kernel_rfl)) ?_
  intro W base args ds gs before hval0 hW hcnd _
  have hval : ∀ (j : Nat) t v, Try.f3.params[j]? = some t → args[j]? = some v → Value.okWide Try.prog W .any base t v := hval0
  have hW' := hW
  obtain ⟨p, q, hA0, hV, rfl, hfz, hnd⟩ := hW
  have hA : DataW.TrodAll enc Try.prog W 0 (fun _ => true) true Try.f3.params.toList args.toList ds p := hA0
  rw [Try.params3] at hA hval
  obtain ⟨v0, vs0, d0, ds0, p0, q0, hargs, rfl, rfl, h0, r0⟩ := trodAll_cons hA
  obtain ⟨rfl, rfl, rfl⟩ := trodAll_nil r0
  obtain rfl : args = #[v0] := by cases args; simp_all
  obtain ⟨rfl, rfl⟩ := trodVars_none hV
  obtain ⟨a0, len0, cap0, rfl⟩ := okWide_slice Try.underlying22 (hval 0 22 v0 rfl rfl)
  have k0 := h0
  have lt0 : ∀ x ∈ p0, x.block < W.heap.size := by obtain ⟨m, hm⟩ := k0; exact DataW.trod_lt m _ _ _ hm
  obtain ⟨z0, w0⟩ : ∃ zs, IsRow .u8 W a0 len0 cap0 zs := by
    obtain ⟨fuel, hf⟩ := h0
    rcases open_ints Try.underlying22 Try.underlying5 (by kernel_rfl) hf with ⟨hcs, _⟩ | ⟨x, l, c, zs, hcs, _, hl, hm, hz, _, hcell, hwz⟩
    · simp [Value.cells] at hcs
      obtain ⟨rfl, rfl, rfl⟩ := hcs
      exact ⟨[], .inl ⟨rfl, rfl, rfl, rfl⟩⟩
    · simp [Value.cells] at hcs
      obtain ⟨rfl, rfl, rfl⟩ := hcs
      exact ⟨zs, .inr ⟨_, rfl, hl, hm, by simpa using hz, hcell, hwz⟩⟩
  clear hA0 hval0
  refine (walk a0 len0 cap0 z0 W w0).mono fun e W' ⟨he, bel⟩ => ?_
  subst he
  exact ⟨_, rfl, _, _, _, [], _, [], hW', trodAll_mk1 (shut_bool Try.underlying4 _), (trodAll_cons_mk (Below.trod laidOut (by kernel_rfl) (of_decide_eq_true (by kernel_rfl)) k0 bel lt0) trodAll_mk0), rfl, bel.frame _, fun h => by cases h⟩

theorem over : Rows.topLevelsRow.holds Try.pinned (OpenSpec.ofChange Rows.topLevelsSpec) :=
  OpenClaim.holds_of_wide 3 Try.f3 rfl rfl rfl rfl rfl rfl rfl ⟨rfl, rfl, rfl, rfl, rfl⟩ rfl rfl rfl rfl rfl (by kernel_rfl) Try.func3 (by kernel_rfl)
    (of_decide_eq_true (by kernel_rfl)) (by unfold Func.isWrapper; first | (rw [if_pos (by decide +kernel)]; kernel_rfl) | (rw [if_neg (by decide +kernel)]; exact ⟨rfl, rfl⟩))
    (fun os started H enc _ => lifted os started H enc)

theorem proved : Rows.TopLevelsSaid := over
end Go.Proofs.Ytjhhhmeoahbagad.topLevels
namespace Go.Proofs.Ytjhhhmeoahbagad
/-- The statement. -/
theorem topLevels_holds : Rows.TopLevelsSaid := topLevels.proved
#print axioms topLevels_holds
end Go.Proofs.Ytjhhhmeoahbagad
