/-
  For every four words NumHighest answers true: num's highest bit is that of the document; it is set, and nothing above it. No condition.
-/
import Derived.Test.YtjhhhmeoahbagabRows
import Derived.Test.YtjhhhmeoahbagabW4
import Derived.Test.YtjhhhmeoahbagabW8
import Derived.WalkKit
import Derived.ProofKit
import Derived.OpenShut
import Derived.RowKit3
import Derived.Laws.Cover2
import Derived.Laws.IdiomArrays
namespace Go.Proofs.Ytjhhhmeoahbagab.numHighest
open Go.ChangeShapes Go.WideShapes Go.ChangeAt Go.RowKit
set_option linter.unusedVariables false

theorem own : ownKnob Try.prog.godebug = none := by kernel_rfl
theorem cells0e : Try.prog.cellsOf 22 = 1 := by kernel_rfl
theorem cells0 : Try.prog.cellsOf 23 = 4 := by kernel_rfl
theorem list4 {α : Type} (l : List α) (h : (⟨l⟩ : Array α).size = 4) : ∃ a b c d, l = [a, b, c, d] := by
  match l, h with
  | [a, b, c, d], _ => exact ⟨a, b, c, d, rfl⟩
open Go.Lib
set_option maxHeartbeats 1000000 in
theorem some_way0 (a0x0 a0x1 a0x2 a0x3 : Int) (w : World) (l0 : W64 a0x0) (l1 : W64 a0x1) (l2 : W64 a0x2) (l3 : W64 a0x3) (k : Nat) (hN : hiBit a0x0 a0x1 a0x2 a0x3 = (k : Int) - 1) (hj : ((k : Int) - 1) / 64 = 0) (HB : Hid ((a0x0 / 2 ^ ((k - 1) % 64) == 1) = true)) (hk1 : 1 ≤ k) (hk : k ≤ 256) :
    Calls Try.prog 4 #[.agg #[.int .u64 a0x0, .int .u64 a0x1, .int .u64 a0x2, .int .u64 a0x3]] w fun e w' => e = .returned (.bool true) ∧ Grown w w' := by
  have q := l0
  obtain ⟨q0, q1⟩ := q
  go_enter Try.func4, Try.ntmps4
  go_wp2_with (first
    | (go_at_call 11; refine (live_any _).mono ?_; rintro e w' ⟨rfl, c, d, rfl⟩)
    | (go_at_call 12; refine (highest_any _ _ _ _ _ l0 l1 l2 l3).mono ?_; rintro e w' ⟨rfl, c, rfl⟩)
    | (go_at_call 13; refine (rhighest_any _ _ _ _ _ l0 l1 l2 l3).mono ?_; rintro e w' ⟨rfl, c, rfl⟩))
  go_ret
  exact ⟨by simp [HB.out], by with_reducible repeat (first | apply Grown.alloc | apply Grown.drew | exact Grown.refl _)⟩
set_option maxHeartbeats 1000000 in
theorem some_way1 (a0x0 a0x1 a0x2 a0x3 : Int) (w : World) (l0 : W64 a0x0) (l1 : W64 a0x1) (l2 : W64 a0x2) (l3 : W64 a0x3) (k : Nat) (hN : hiBit a0x0 a0x1 a0x2 a0x3 = (k : Int) - 1) (hj : ((k : Int) - 1) / 64 = 1) (HB : Hid ((a0x1 / 2 ^ ((k - 1) % 64) == 1) = true)) (hk1 : 1 ≤ k) (hk : k ≤ 256) :
    Calls Try.prog 4 #[.agg #[.int .u64 a0x0, .int .u64 a0x1, .int .u64 a0x2, .int .u64 a0x3]] w fun e w' => e = .returned (.bool true) ∧ Grown w w' := by
  have q := l1
  obtain ⟨q0, q1⟩ := q
  go_enter Try.func4, Try.ntmps4
  go_wp2_with (first
    | (go_at_call 11; refine (live_any _).mono ?_; rintro e w' ⟨rfl, c, d, rfl⟩)
    | (go_at_call 12; refine (highest_any _ _ _ _ _ l0 l1 l2 l3).mono ?_; rintro e w' ⟨rfl, c, rfl⟩)
    | (go_at_call 13; refine (rhighest_any _ _ _ _ _ l0 l1 l2 l3).mono ?_; rintro e w' ⟨rfl, c, rfl⟩))
  go_ret
  exact ⟨by simp [HB.out], by with_reducible repeat (first | apply Grown.alloc | apply Grown.drew | exact Grown.refl _)⟩
set_option maxHeartbeats 1000000 in
theorem some_way2 (a0x0 a0x1 a0x2 a0x3 : Int) (w : World) (l0 : W64 a0x0) (l1 : W64 a0x1) (l2 : W64 a0x2) (l3 : W64 a0x3) (k : Nat) (hN : hiBit a0x0 a0x1 a0x2 a0x3 = (k : Int) - 1) (hj : ((k : Int) - 1) / 64 = 2) (HB : Hid ((a0x2 / 2 ^ ((k - 1) % 64) == 1) = true)) (hk1 : 1 ≤ k) (hk : k ≤ 256) :
    Calls Try.prog 4 #[.agg #[.int .u64 a0x0, .int .u64 a0x1, .int .u64 a0x2, .int .u64 a0x3]] w fun e w' => e = .returned (.bool true) ∧ Grown w w' := by
  have q := l2
  obtain ⟨q0, q1⟩ := q
  go_enter Try.func4, Try.ntmps4
  go_wp2_with (first
    | (go_at_call 11; refine (live_any _).mono ?_; rintro e w' ⟨rfl, c, d, rfl⟩)
    | (go_at_call 12; refine (highest_any _ _ _ _ _ l0 l1 l2 l3).mono ?_; rintro e w' ⟨rfl, c, rfl⟩)
    | (go_at_call 13; refine (rhighest_any _ _ _ _ _ l0 l1 l2 l3).mono ?_; rintro e w' ⟨rfl, c, rfl⟩))
  go_ret
  exact ⟨by simp [HB.out], by with_reducible repeat (first | apply Grown.alloc | apply Grown.drew | exact Grown.refl _)⟩
set_option maxHeartbeats 1000000 in
theorem some_way3 (a0x0 a0x1 a0x2 a0x3 : Int) (w : World) (l0 : W64 a0x0) (l1 : W64 a0x1) (l2 : W64 a0x2) (l3 : W64 a0x3) (k : Nat) (hN : hiBit a0x0 a0x1 a0x2 a0x3 = (k : Int) - 1) (hj : ((k : Int) - 1) / 64 = 3) (HB : Hid ((a0x3 / 2 ^ ((k - 1) % 64) == 1) = true)) (hk1 : 1 ≤ k) (hk : k ≤ 256) :
    Calls Try.prog 4 #[.agg #[.int .u64 a0x0, .int .u64 a0x1, .int .u64 a0x2, .int .u64 a0x3]] w fun e w' => e = .returned (.bool true) ∧ Grown w w' := by
  have q := l3
  obtain ⟨q0, q1⟩ := q
  go_enter Try.func4, Try.ntmps4
  go_wp2_with (first
    | (go_at_call 11; refine (live_any _).mono ?_; rintro e w' ⟨rfl, c, d, rfl⟩)
    | (go_at_call 12; refine (highest_any _ _ _ _ _ l0 l1 l2 l3).mono ?_; rintro e w' ⟨rfl, c, rfl⟩)
    | (go_at_call 13; refine (rhighest_any _ _ _ _ _ l0 l1 l2 l3).mono ?_; rintro e w' ⟨rfl, c, rfl⟩))
  go_ret
  exact ⟨by simp [HB.out], by with_reducible repeat (first | apply Grown.alloc | apply Grown.drew | exact Grown.refl _)⟩
set_option maxHeartbeats 1000000 in
theorem none_way (w : World) :
    Calls Try.prog 4 #[.agg #[.int .u64 0, .int .u64 0, .int .u64 0, .int .u64 0]] w fun e w' => e = .returned (.bool true) ∧ Grown w w' := by
  have hz : W64 0 := ⟨by decide, by decide⟩
  have e0 : hiBit 0 0 0 0 = -1 := by decide +kernel
  go_enter Try.func4, Try.ntmps4
  go_wp2_with (first
    | (go_at_call 11; refine (live_any _).mono ?_; rintro e w' ⟨rfl, c, d, rfl⟩)
    | (go_at_call 12; refine (highest_any _ _ _ _ _ hz hz hz hz).mono ?_; rintro e w' ⟨rfl, c, rfl⟩)
    | (go_at_call 13; refine (rhighest_any _ _ _ _ _ hz hz hz hz).mono ?_; rintro e w' ⟨rfl, c, rfl⟩))
  go_ret
  exact ⟨rfl, by with_reducible repeat (first | apply Grown.alloc | apply Grown.drew | exact Grown.refl _)⟩

set_option maxHeartbeats 1000000 in
theorem walk (a0x0 a0x1 a0x2 a0x3 : Int) (w0x0 : (Lit.int .u64 a0x0).wf = true) (w0x1 : (Lit.int .u64 a0x1).wf = true) (w0x2 : (Lit.int .u64 a0x2).wf = true) (w0x3 : (Lit.int .u64 a0x3).wf = true) (w : World) :
    Calls Try.prog 4 #[.agg #[.int .u64 a0x0, .int .u64 a0x1, .int .u64 a0x2, .int .u64 a0x3]] w fun e w' => e = .returned (.bool true) ∧ Grown w w' := by
  have l0 : W64 a0x0 := bounds_u64 w0x0
  have l1 : W64 a0x1 := bounds_u64 w0x1
  have l2 : W64 a0x2 := bounds_u64 w0x2
  have l3 : W64 a0x3 := bounds_u64 w0x3
  by_cases hz : a0x0 = 0 ∧ a0x1 = 0 ∧ a0x2 = 0 ∧ a0x3 = 0
  · obtain ⟨rfl, rfl, rfl, rfl⟩ := hz
    exact none_way w
  · have hbd := hi_bd a0x0 a0x1 a0x2 a0x3 l0 l1 l2 l3
    have hn : 0 ≤ hiBit a0x0 a0x1 a0x2 a0x3 := by
      have hge := hi_ge a0x0 a0x1 a0x2 a0x3 l0 l1 l2 l3
      have k0 : a0x0 ≠ 0 → 1 ≤ (Lib.bitLen a0x0.toNat : Int) := fun h => by have := (bl a0x0 l0 h).2.2; omega
      have k1 : a0x1 ≠ 0 → 1 ≤ (Lib.bitLen a0x1.toNat : Int) := fun h => by have := (bl a0x1 l1 h).2.2; omega
      have k2 : a0x2 ≠ 0 → 1 ≤ (Lib.bitLen a0x2.toNat : Int) := fun h => by have := (bl a0x2 l2 h).2.2; omega
      have k3 : a0x3 ≠ 0 → 1 ≤ (Lib.bitLen a0x3.toNat : Int) := fun h => by have := (bl a0x3 l3 h).2.2; omega
      omega
    obtain ⟨k, hN, hk1, hk⟩ : ∃ k : Nat, hiBit a0x0 a0x1 a0x2 a0x3 = (k : Int) - 1 ∧ 1 ≤ k ∧ k ≤ 256 := ⟨(hiBit a0x0 a0x1 a0x2 a0x3 + 1).toNat, by omega, by omega, by omega⟩
    by_cases h3 : 192 < k
    · have hd : True := trivial
      have hj : ((k : Int) - 1) / 64 = 3 := by omega
      have hb : (a0x3 / 2 ^ ((k - 1) % 64) == 1) = true := by
        obtain ⟨n0, nm⟩ := (hi_at a0x0 a0x1 a0x2 a0x3 l0 l1 l2 l3 (((k - 1) % 64 : Nat) : Int) (by omega) (by omega)).2.2.2 (by omega)
        have h1 := bl_one a0x3 l3 n0
        have e : Lib.bitLen a0x3.toNat - 1 = (k - 1) % 64 := by omega
        rw [e] at h1
        rw [h1]; rfl
      exact some_way3 _ _ _ _ w l0 l1 l2 l3 k hN hj hb hk1 hk
    · by_cases h2 : 128 < k
      · have hd : True := trivial
        have hj : ((k : Int) - 1) / 64 = 2 := by omega
        have hb : (a0x2 / 2 ^ ((k - 1) % 64) == 1) = true := by
          obtain ⟨n0, nm⟩ := (hi_at a0x0 a0x1 a0x2 a0x3 l0 l1 l2 l3 (((k - 1) % 64 : Nat) : Int) (by omega) (by omega)).2.2.1 (by omega)
          have h1 := bl_one a0x2 l2 n0
          have e : Lib.bitLen a0x2.toNat - 1 = (k - 1) % 64 := by omega
          rw [e] at h1
          rw [h1]; rfl
        exact some_way2 _ _ _ _ w l0 l1 l2 l3 k hN hj hb hk1 hk
      · by_cases h1 : 64 < k
        · have hd : True := trivial
          have hj : ((k : Int) - 1) / 64 = 1 := by omega
          have hb : (a0x1 / 2 ^ ((k - 1) % 64) == 1) = true := by
            obtain ⟨n0, nm⟩ := (hi_at a0x0 a0x1 a0x2 a0x3 l0 l1 l2 l3 (((k - 1) % 64 : Nat) : Int) (by omega) (by omega)).2.1 (by omega)
            have h1 := bl_one a0x1 l1 n0
            have e : Lib.bitLen a0x1.toNat - 1 = (k - 1) % 64 := by omega
            rw [e] at h1
            rw [h1]; rfl
          exact some_way1 _ _ _ _ w l0 l1 l2 l3 k hN hj hb hk1 hk
        · have hd : True := trivial
          have hj : ((k : Int) - 1) / 64 = 0 := by omega
          have hb : (a0x0 / 2 ^ ((k - 1) % 64) == 1) = true := by
            obtain ⟨n0, nm⟩ := (hi_at a0x0 a0x1 a0x2 a0x3 l0 l1 l2 l3 (((k - 1) % 64 : Nat) : Int) (by omega) (by omega)).1 (by omega)
            have h1 := bl_one a0x0 l0 n0
            have e : Lib.bitLen a0x0.toNat - 1 = (k - 1) % 64 := by omega
            rw [e] at h1
            rw [h1]; rfl
          exact some_way0 _ _ _ _ w l0 l1 l2 l3 k hN hj hb hk1 hk

set_option maxHeartbeats 1000000 in
set_option maxRecDepth 100000 in
theorem lifted (os : Os) (started : os.Started) (H : Type) (enc : TypeId × Value → H) :
    ReturnsInHanded {} Try.checked os 4 .any (Rows.numHighestSpec.pre6 enc Try.prog Try.f4 Rows.numHighestRow.domain false) (Rows.numHighestSpec.post enc Try.prog Try.f4 false true false false) := by
  refine returnsInHanded_of_change (C := Try.checked) own started (by kernel_rfl) Try.func4
    (ChangeSpec.witness6 (enc := enc) (C := Try.checked) false ⟨#[], #[.agg #[.int .u64 0, .int .u64 0, .int .u64 0, .int .u64 0]], []⟩ 8 (by kernel_rfl) (by kernel_rfl) (by kernel_rfl) (by kernel_rfl)) ?_
  intro W base args ds gs before hval0 hW hcnd _
  have hval : ∀ (j : Nat) t v, Try.f4.params[j]? = some t → args[j]? = some v → Value.okWide Try.prog W .any base t v := hval0
  have hW' := hW
  obtain ⟨p, q, hA0, hV, rfl, hfz, hnd⟩ := hW
  have hA : DataW.TrodAll enc Try.prog W 0 (fun _ => true) true Try.f4.params.toList args.toList ds p := hA0
  rw [Try.params4] at hA hval
  obtain ⟨v0, vs0, d0, ds0, p0, q0, hargs, rfl, rfl, h0, r0⟩ := trodAll_cons hA
  obtain ⟨rfl, rfl, rfl⟩ := trodAll_nil r0
  obtain rfl : args = #[v0] := by cases args; simp_all
  obtain ⟨rfl, rfl⟩ := trodVars_none hV
  obtain ⟨cs0, rfl, hsz0, _⟩ : ∃ cs, v0 = .agg cs ∧ cs.size = Try.prog.cellsOf 23 ∧ Row.okWide Try.prog W .any base 23 cs := by
    have := hval 0 23 v0 rfl rfl
    simpa [Value.okWide, Try.underlying23] using this
  rw [cells0] at hsz0
  obtain ⟨l0⟩ := cs0
  obtain ⟨c00, c01, c02, c03, rfl⟩ := list4 l0 hsz0
  obtain ⟨fuel0, hf0⟩ := h0
  obtain ⟨y00, y01, y02, y03, m0, hx0, hy00, hy01, hy02, hy03⟩ := trod_array4 Try.underlying23 cells0e hf0
  obtain ⟨a0x0, e00, rfl, w0x0⟩ := DataW.trod_int Try.underlying22 hy00
  obtain ⟨a0x1, e01, rfl, w0x1⟩ := DataW.trod_int Try.underlying22 hy01
  obtain ⟨a0x2, e02, rfl, w0x2⟩ := DataW.trod_int Try.underlying22 hy02
  obtain ⟨a0x3, e03, rfl, w0x3⟩ := DataW.trod_int Try.underlying22 hy03
  simp at e00 e01 e02 e03
  subst e00 e01 e02 e03
  simp only [Prod.mk.injEq] at hx0
  obtain ⟨rfl, rfl⟩ := hx0
  clear hA0 hval0
  simp only [List.append_nil] at hW'
  refine (walk a0x0 a0x1 a0x2 a0x3 w0x0 w0x1 w0x2 w0x3 W).mono fun e W' ⟨he, hg⟩ => ?_
  subst he
  exact ⟨_, rfl, post_of_same (pa := []) (pv := []) hW' (fun _ _ _ => (trodAll_cons_mk (shut_bool Try.underlying4 _) trodAll_mk0)) (fun sp _ => (trodAll_cons_mk (show DataW.Trod enc Try.prog W' 0 sp true 23 (.agg #[.int .u64 a0x0, .int .u64 a0x1, .int .u64 a0x2, .int .u64 a0x3]) (DataW.agg [.lit (.int .u64 a0x0), .lit (.int .u64 a0x1), .lit (.int .u64 a0x2), .lit (.int .u64 a0x3)]) [] from ⟨2, by simp [DataW.trod, Value.cells, Try.underlying23, Try.underlying22, cells0, cells0e, w0x0, w0x1, w0x2, w0x3, show List.range 4 = [0, 1, 2, 3] from rfl]⟩) trodAll_mk0)) (fun _ _ => rfl) rfl
    (hg.frame _) hg.2.1 (ok_one (by kernel_rfl) rfl (okWide_bool_mk Try.underlying4 _))⟩

theorem over : Rows.numHighestRow.holds Try.pinned (OpenSpec.ofChange Rows.numHighestSpec) :=
  OpenClaim.holds_of_wide 4 Try.f4 rfl rfl rfl rfl rfl rfl rfl ⟨rfl, rfl, rfl, rfl, rfl⟩ rfl rfl rfl rfl rfl (by kernel_rfl) Try.func4 (by kernel_rfl)
    (of_decide_eq_true (by kernel_rfl)) (by unfold Func.isWrapper; first | (rw [if_pos (by decide +kernel)]; kernel_rfl) | (rw [if_neg (by decide +kernel)]; exact ⟨rfl, rfl⟩))
    (fun os started H enc _ => lifted os started H enc)
end Go.Proofs.Ytjhhhmeoahbagab.numHighest
namespace Go.Proofs.Ytjhhhmeoahbagab
/-- The statement. -/
theorem numHighest_holds : Rows.NumHighestSaid := numHighest.over
#print axioms numHighest_holds
end Go.Proofs.Ytjhhhmeoahbagab
