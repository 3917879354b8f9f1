/-
  For every two halves and every turn NumSmall answers true: products of half numbers are plain ones, those by a power of two are turns of bits. No condition.
-/
import Derived.Test.YtjhhhmeoahbagabRows
import Derived.Test.YtjhhhmeoahbagabW6
import Derived.Deep.RegionWith
import Derived.Laws.Closers25b
import Derived.WalkKit
import Derived.ProofKit
import Derived.OpenShut
import Derived.RowKit3
import Derived.Laws.Cover2
import Derived.Laws.IdiomArrays
namespace Go.Proofs.Ytjhhhmeoahbagab.numSmall
open Go.ChangeShapes Go.WideShapes Go.ChangeAt Go.RowKit
set_option linter.unusedVariables false

theorem own : ownKnob Try.prog.godebug = none := by kernel_rfl
open Go.Lib
@[go_sem] theorem buildU1 (b : Int) (w : World) : (Instr.build 26 #[(1, .int .u64 b)]).run Try.prog w = .ok (.agg #[.int .u64 0, .int .u64 b]) w := run_build w 26 _ _ (by kernel_rfl)
theorem small_hi (a b : Int) (l0 : 0 ≤ a) (m0 : a ≤ 4294967295) (l1 : 0 ≤ b) (m1 : b ≤ 4294967295) : hiN a b = 0 := by
  unfold hiN
  have h0 : 0 ≤ a * b := Int.mul_nonneg l0 l1
  have h1 : a * b ≤ 4294967295 * 4294967295 := Int.mul_le_mul m0 m1 l1 (by decide)
  omega
theorem small_lo (a b : Int) : loN a b = IntKind.u64.wrap (a * b) := by
  unfold loN; rw [IntKind.wrap_u64]
theorem turn_hi (X P : Int) (k : Int) (hP : P = 2 ^ k.toNat) (k0 : 0 < k) (k1 : k < 64) : hiN X P = X / 2 ^ (64 - k).toNat := by
  unfold hiN
  subst hP
  have e : (18446744073709551616 : Int) = 2 ^ (64 - k).toNat * 2 ^ k.toNat := by
    rw [← Int.pow_add, show (64 - k).toNat + k.toNat = 64 by omega]; rfl
  rw [e]
  exact Int.mul_ediv_mul_of_pos_left _ _ (Int.pow_pos (by decide))
theorem turn_lo (X P : Int) (k : Int) (hP : P = 2 ^ k.toNat) : loN X P = IntKind.u64.wrap (X * 2 ^ k.toNat) := by
  subst hP; exact small_lo _ _
theorem two_wrap (k : Int) (k1 : k < 64) : IntKind.u64.wrap (2 ^ k.toNat) = 2 ^ k.toNat ∧ (0 : Int) ≤ 2 ^ k.toNat ∧ (2 : Int) ^ k.toNat ≤ 18446744073709551615 := by
  have h0 : (0 : Int) < 2 ^ k.toNat := Int.pow_pos (by decide)
  have h1 : (2 : Int) ^ k.toNat ≤ 2 ^ 63 := by
    have := Nat.pow_le_pow_right (n := 2) (by decide) (show k.toNat ≤ 63 by omega)
    exact_mod_cast this
  have h2 : (2 : Int) ^ 63 = 9223372036854775808 := by decide
  rw [IntKind.wrap_u64]
  generalize (2 : Int) ^ k.toNat = Q at *
  omega

set_option maxHeartbeats 1000000 in
theorem walk (a0 : Int) (a1 : Int) (a2 : Int) (w0 : (Lit.int .u32 a0).wf = true) (w1 : (Lit.int .u32 a1).wf = true) (w2 : (Lit.int .u8 a2).wf = true) (w : World) :
    Calls Try.prog 5 #[.int .u32 a0, .int .u32 a1, .int .u8 a2] w fun e w' => e = .returned (.bool true) ∧ Grown w w' := by
  obtain ⟨l0, m0⟩ := bounds_u32 w0
  obtain ⟨l1, m1⟩ := bounds_u32 w1
  obtain ⟨l2, m2⟩ := bounds_u8 w2
  have e1 := small_hi a0 a1 l0 m0 l1 m1
  have e2 := small_lo a0 a1
  obtain ⟨X, hX⟩ : ∃ X, bits BinOp.or IntKind.u64 (a0 * 4294967296) a1 = X := ⟨_, rfl⟩
  have x0 : 0 ≤ X := by rw [← hX]; exact bits_lo_u64 _ _ _
  have x1 : X ≤ 18446744073709551615 := by rw [← hX]; exact bits_hi_u64 _ _ _
  by_cases hk : a2 % 64 = 0
  · have e3 : hiN X 1 = 0 := by unfold hiN; omega
    have e4 : loN X 1 = X := by unfold loN; omega
    go_enter Try.func5, Try.ntmps5
    go_wp2_with (first
      | (go_at_call 11; refine (live_any _).mono ?_; rintro e w' ⟨rfl, c, d, rfl⟩)
      | (go_at_call 10; refine (mul_any _ _ _ (by omega) (by omega) (by omega) (by omega)).mono ?_; rintro e w' ⟨rfl, c, rfl⟩))
    go_ret
    exact ⟨rfl, by with_reducible repeat (first | apply Grown.alloc | apply Grown.drew | exact Grown.refl _)⟩
  · have hk' : 0 < a2 % 64 := by omega
    clear hk
    obtain ⟨t1, t2, t3⟩ := two_wrap (a2 % 64) (by omega)
    obtain ⟨P, hP⟩ : ∃ P, IntKind.u64.wrap (2 ^ (a2 % 64).toNat) = P := ⟨_, rfl⟩
    have p0 : 0 ≤ P := by rw [← hP, t1]; exact t2
    have p1 : P ≤ 18446744073709551615 := by rw [← hP, t1]; exact t3
    have hP' : P = 2 ^ (a2 % 64).toNat := by rw [← hP, t1]
    have e3 := turn_hi X P (a2 % 64) hP' hk' (by omega)
    have e4 := turn_lo X P (a2 % 64) hP'
    clear hP' t1 t2 t3
    go_enter Try.func5, Try.ntmps5
    go_wp2_with (first
      | (go_at_call 11; refine (live_any _).mono ?_; rintro e w' ⟨rfl, c, d, rfl⟩)
      | (go_at_call 10; refine (mul_any _ _ _ (by omega) (by omega) (by omega) (by omega)).mono ?_; rintro e w' ⟨rfl, c, rfl⟩))
    go_ret
    exact ⟨rfl, by with_reducible repeat (first | apply Grown.alloc | apply Grown.drew | exact Grown.refl _)⟩

set_option maxHeartbeats 1000000 in
set_option maxRecDepth 100000 in
theorem lifted (os : Os) (started : os.Started) (H : Type) (enc : TypeId × Value → H) :
    ReturnsInHanded {} Try.checked os 5 .any (Rows.numSmallSpec.pre6 enc Try.prog Try.f5 Rows.numSmallRow.domain false) (Rows.numSmallSpec.post enc Try.prog Try.f5 false true false false) := by
  refine returnsInHanded_of_change (C := Try.checked) own started (by kernel_rfl) Try.func5
    (ChangeSpec.witness6 (enc := enc) (C := Try.checked) false ⟨#[], #[.int .u32 0, .int .u32 0, .int .u8 0], []⟩ 8 (by kernel_rfl) (by kernel_rfl) (by kernel_rfl) (by kernel_rfl)) ?_
  intro W base args ds gs before hval0 hW hcnd _
  have hval : ∀ (j : Nat) t v, Try.f5.params[j]? = some t → args[j]? = some v → Value.okWide Try.prog W .any base t v := hval0
  have hW' := hW
  obtain ⟨p, q, hA0, hV, rfl, hfz, hnd⟩ := hW
  have hA : DataW.TrodAll enc Try.prog W 0 (fun _ => true) true Try.f5.params.toList args.toList ds p := hA0
  rw [Try.params5] at hA hval
  obtain ⟨v0, vs0, d0, ds0, p0, q0, hargs, rfl, rfl, h0, r0⟩ := trodAll_cons hA
  obtain ⟨v1, vs1, d1, ds1, p1, q1, rfl, rfl, rfl, h1, r1⟩ := trodAll_cons r0
  obtain ⟨v2, vs2, d2, ds2, p2, q2, rfl, rfl, rfl, h2, r2⟩ := trodAll_cons r1
  obtain ⟨rfl, rfl, rfl⟩ := trodAll_nil r2
  obtain rfl : args = #[v0, v1, v2] := by cases args; simp_all
  obtain ⟨rfl, rfl⟩ := trodVars_none hV
  obtain ⟨a0, rfl, rfl, rfl, w0⟩ := open_int Try.underlying31 (hval 0 31 v0 rfl rfl) h0
  obtain ⟨a1, rfl, rfl, rfl, w1⟩ := open_int Try.underlying31 (hval 1 31 v1 rfl rfl) h1
  obtain ⟨a2, rfl, rfl, rfl, w2⟩ := open_int Try.underlying5 (hval 2 5 v2 rfl rfl) h2
  clear hA0 hval0
  simp only [List.append_nil] at hW'
  refine (walk a0 a1 a2 w0 w1 w2 W).mono fun e W' ⟨he, hg⟩ => ?_
  subst he
  exact ⟨_, rfl, post_of_same (pa := []) (pv := []) hW' (fun _ _ _ => (trodAll_cons_mk (shut_bool Try.underlying4 _) trodAll_mk0)) (fun sp _ => (trodAll_cons_mk (shut_int Try.underlying31 w0) (trodAll_cons_mk (shut_int Try.underlying31 w1) (trodAll_cons_mk (shut_int Try.underlying5 w2) trodAll_mk0)))) (fun _ _ => rfl) rfl
    (hg.frame _) hg.2.1 (ok_one (by kernel_rfl) rfl (okWide_bool_mk Try.underlying4 _))⟩

theorem over : Rows.numSmallRow.holds Try.pinned (OpenSpec.ofChange Rows.numSmallSpec) :=
  OpenClaim.holds_of_wide 5 Try.f5 rfl rfl rfl rfl rfl rfl rfl ⟨rfl, rfl, rfl, rfl, rfl⟩ rfl rfl rfl rfl rfl (by kernel_rfl) Try.func5 (by kernel_rfl)
    (of_decide_eq_true (by kernel_rfl)) (by unfold Func.isWrapper; first | (rw [if_pos (by decide +kernel)]; kernel_rfl) | (rw [if_neg (by decide +kernel)]; exact ⟨rfl, rfl⟩))
    (fun os started H enc _ => lifted os started H enc)
end Go.Proofs.Ytjhhhmeoahbagab.numSmall
namespace Go.Proofs.Ytjhhhmeoahbagab
/-- The statement. -/
theorem numSmall_holds : Rows.NumSmallSaid := numSmall.over
#print axioms numSmall_holds
end Go.Proofs.Ytjhhhmeoahbagab
