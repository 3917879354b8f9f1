/-
  For every floats NumMeans answers true: the mean of at most 200 of them is that of the document, bit by bit; of none it is no number, else it is from 0 to 1. No condition.
-/
import Derived.Test.YtjhhhmeoahbagaaRows
import Derived.Test.YtjhhhmeoahbagaaW11
import Derived.WalkKit
import Derived.ProofKit
import Derived.OpenShut
import Derived.RowKit3
import Derived.Laws.Cover2
import Derived.Laws.IdiomArrays
import Derived.ChangeOld
import Derived.Below
import Derived.Carry
namespace Go.Proofs.Ytjhhhmeoahbagaa.numMeans
open Go.ChangeShapes Go.WideShapes Go.ChangeAt Go.RowKit
set_option linter.unusedVariables false

theorem own : ownKnob Try.prog.godebug = none := by kernel_rfl
theorem laidOut : laidOutB Try.prog = true := by kernel_rfl
open Go.Lib
theorem cap_lit (r : Nat) (h : r ≤ 4607182418800017408) : (FloatKind.f64.format.order r 0 == some .gt || FloatKind.f64.format.order r 0 == some .eq) = true ∧ (FloatKind.f64.format.order r 4607182423303617035 == some .lt || FloatKind.f64.format.order r 4607182423303617035 == some .eq) = true ∧ Num r := by
  refine ⟨order_ge0 r (by omega), order_le r _ (by omega) (by decide), ?_⟩
  unfold Num
  rw [read_fin r (by omega)]
  rfl
theorem bel2 (w : World) (c d : Array Value) (t u : TypeId) : Below w.heap.size w ((w.alloc (.cells c t)).alloc (.cells d u)) :=
  ((Below.refl _ _).alloc (Nat.le_refl _) _).alloc (by simp) _

set_option maxHeartbeats 1000000 in
/-- Of at most 200, and not none. -/
theorem some_way (b off cap : Nat) (zs : List Nat) (w : World) (hl : zs.length ≤ 200) (h0 : 1 ≤ zs.length) (hx : ∀ y ∈ zs, y < 18446744073709551616)
    (hc : ∀ i, i < zs.length → w.cell? ⟨b, off + i, none⟩ = some (.float .f64 (zs.getD i 0))) :
    Calls Try.prog 8 #[.slice (some ⟨b, off, none⟩) zs.length cap] w fun e w' => e = .returned (.bool true) ∧ Below w.heap.size w w' := by
  obtain ⟨r, hq, hr⟩ := mean_bd zs (by intro h; subst h; simp at h0) hl hx
  obtain ⟨g1, g2, g3⟩ := cap_lit r hr
  have HQ : Hid (_ = _) := hq
  have HC : Hid (∀ i, i < zs.length → w.cell? ⟨b, off + i, none⟩ = some (.float .f64 (zs.getD i 0))) := hc
  clear hq hc
  have t1 : ((zs.length : Int) == 0) = false := by rw [beq_eq_false_iff_ne]; omega
  go_enter Try.func8, Try.ntmps8
  go_wp2_with (first
    | (go_at_call 9; refine (live_any _).mono ?_; rintro e w' ⟨rfl, c, d, rfl⟩)
    | (go_at_call 23; refine (mean_ok b off cap zs r _ hl h0 hx HC.out HQ).mono ?_; rintro e w' ⟨rfl, rfl⟩)
    | (go_at_call 24; refine (rmean_ok b off cap zs r _ hl h0 hx HC.out HQ).mono ?_; rintro e w' ⟨rfl, rfl⟩)
    | (go_at_call 18; refine (same_num _ _ g3).mono ?_; rintro e w' ⟨rfl, rfl⟩))
  go_ret
  exact ⟨rfl, bel2 _ _ _ _ _⟩

set_option maxHeartbeats 1000000 in
/-- Of more than 200: of the first 200. -/
theorem more_way (b off len cap : Nat) (zs : List Nat) (w : World) (hl : 200 < len) (hlc : len ≤ cap) (hcm : cap ≤ maxLen) (h0 : zs.length = 200) (hx : ∀ y ∈ zs, y < 18446744073709551616)
    (hc : ∀ i, i < zs.length → w.cell? ⟨b, off + i, none⟩ = some (.float .f64 (zs.getD i 0))) :
    Calls Try.prog 8 #[.slice (some ⟨b, off, none⟩) len cap] w fun e w' => e = .returned (.bool true) ∧ Below w.heap.size w w' := by
  obtain ⟨r, hq, hr⟩ := mean_bd zs (by intro h; subst h; simp at h0) (by omega) hx
  obtain ⟨g1, g2, g3⟩ := cap_lit r hr
  unfold maxLen at hcm
  have c1 : ∀ w', w' = w → Calls Try.prog 23 #[.slice (some ⟨b, off, none⟩) 200 cap] w' fun e w'' => e = .returned (.float .f64 r) ∧ w'' = w' := by
    rintro w' rfl
    have := mean_ok b off cap zs r w' (by omega) (by omega) hx hc hq
    rw [h0] at this
    exact this
  have c2 : ∀ w', w' = w → Calls Try.prog 24 #[.slice (some ⟨b, off, none⟩) 200 cap] w' fun e w'' => e = .returned (.float .f64 r) ∧ w'' = w' := by
    rintro w' rfl
    have := rmean_ok b off cap zs r w' (by omega) (by omega) hx hc hq
    rw [h0] at this
    exact this
  have C1 : Hid _ := c1
  have C2 : Hid _ := c2
  clear hq hc c1 c2 h0 hx
  have l1 : (200 : Int) < (len : Int) := by omega
  have l2 : (len : Int) ≤ (cap : Int) := by omega
  have l3 : (200 : Int) ≤ (cap : Int) := by omega
  go_enter Try.func8, Try.ntmps8
  go_wp2_with (first
    | (go_at_call 9; refine (live_any _).mono ?_; rintro e w' ⟨rfl, c, d, rfl⟩)
    | (go_at_call 23; refine (C1.out _ rfl).mono ?_; rintro e w' ⟨rfl, rfl⟩)
    | (go_at_call 24; refine (C2.out _ rfl).mono ?_; rintro e w' ⟨rfl, rfl⟩)
    | (go_at_call 18; refine (same_num _ _ g3).mono ?_; rintro e w' ⟨rfl, rfl⟩))
  go_ret
  exact ⟨rfl, bel2 _ _ _ _ _⟩

set_option maxHeartbeats 1000000 in
/-- Of none. -/
theorem none_way (a : Option Addr) (cap : Nat) (w : World) :
    Calls Try.prog 8 #[.slice a 0 cap] w fun e w' => e = .returned (.bool true) ∧ Below w.heap.size w w' := by
  go_enter Try.func8, Try.ntmps8
  go_wp2_with (first
    | (go_at_call 9; refine (live_any _).mono ?_; rintro e w' ⟨rfl, c, d, rfl⟩)
    | (go_at_call 23; refine (mean_none _ _ _).mono ?_; rintro e w' ⟨r, rfl, hr, rfl⟩; have hrr : (FloatKind.f64.format.order r r != some .eq) = true := by rw [nan_self r r hr]; rfl)
    | (go_at_call 24; refine (rmean_none _ _ _).mono ?_; rintro e w' ⟨s, rfl, hs, rfl⟩)
    | (go_at_call 18; refine (same_nan _ _ _ (by assumption) (by assumption)).mono ?_; rintro e w' ⟨rfl, rfl⟩))
  go_ret
  exact ⟨rfl, (bel2 _ _ _ _ _).drew.drew⟩

set_option maxHeartbeats 1000000 in
theorem walk (a0 : Option Addr) (len0 cap0 : Nat) (z0 : List Nat) (w : World) (w0 : IsF w a0 len0 cap0 z0) :
    Calls Try.prog 8 #[.slice a0 len0 cap0] w fun e w' => e = .returned (.bool true) ∧ Below w.heap.size w w' := by
  obtain ⟨hz, hlc, hcm, hx, hcell⟩ := w0
  by_cases h0 : len0 = 0
  · subst h0
    exact none_way a0 cap0 w
  · obtain ⟨b, off, rfl, hc⟩ := hcell (by omega)
    by_cases hl : len0 ≤ 200
    · subst hz
      exact some_way b off cap0 z0 w hl (by omega) hx hc
    · refine more_way b off len0 cap0 (z0.take 200) w (by omega) hlc hcm (by rw [List.length_take]; omega) (fun y hy => hx y (List.mem_of_mem_take hy)) ?_
      intro i hi
      rw [List.length_take] at hi
      rw [hc i (by omega)]
      simp [List.getD, show i < 200 by omega]

set_option maxHeartbeats 1000000 in
set_option maxRecDepth 100000 in
theorem lifted (os : Os) (started : os.Started) (H : Type) (enc : TypeId × Value → H) :
    ReturnsInHanded {} Try.checked os 8 .any (Rows.numMeansSpec.pre6 enc Try.prog Try.f8 Rows.numMeansRow.domain false) (Rows.numMeansSpec.post enc Try.prog Try.f8 false true false false) := by
  refine returnsInHanded_of_change (C := Try.checked) own started (by kernel_rfl) Try.func8
    (ChangeSpec.witness6 (enc := enc) (C := Try.checked) false ⟨#[], #[.slice none 0 0], []⟩ 8 (by kernel_rfl) (by kernel_rfl) (by kernel_rfl) (by kernel_rfl)) ?_
  intro W base args ds gs before hval0 hW hcnd _
  have hval : ∀ (j : Nat) t v, Try.f8.params[j]? = some t → args[j]? = some v → Value.okWide Try.prog W .any base t v := hval0
  have hW' := hW
  obtain ⟨p, q, hA0, hV, rfl, hfz, hnd⟩ := hW
  have hA : DataW.TrodAll enc Try.prog W 0 (fun _ => true) true Try.f8.params.toList args.toList ds p := hA0
  rw [Try.params8] at hA hval
  obtain ⟨v0, vs0, d0, ds0, p0, q0, hargs, rfl, rfl, h0, r0⟩ := trodAll_cons hA
  obtain ⟨rfl, rfl, rfl⟩ := trodAll_nil r0
  obtain rfl : args = #[v0] := by cases args; simp_all
  obtain ⟨rfl, rfl⟩ := trodVars_none hV
  have k0 := h0
  have lt0 : ∀ x ∈ p0, x.block < W.heap.size := by obtain ⟨m, hm⟩ := k0; exact DataW.trod_lt m _ _ _ hm
  obtain ⟨a0, len0, cap0, rfl⟩ := okWide_slice Try.underlying38 (hval 0 38 v0 rfl rfl)
  obtain ⟨z0, w0⟩ : ∃ zs, IsF W a0 len0 cap0 zs := by
    obtain ⟨fuel, hf⟩ := h0
    exact open_floats Try.underlying38 Try.underlying32 (by kernel_rfl) hf
  clear hA0 hval0
  refine (walk a0 len0 cap0 z0 W w0).mono fun e W' ⟨he, bel⟩ => ?_
  subst he
  exact ⟨_, rfl, _, _, _, [], _, [], hW', trodAll_mk1 (shut_bool Try.underlying4 _), (trodAll_cons_mk (Below.trod laidOut (by kernel_rfl) (of_decide_eq_true (by kernel_rfl)) k0 bel lt0) trodAll_mk0), rfl, bel.frame _, fun h => by cases h⟩

theorem over : Rows.numMeansRow.holds Try.pinned (OpenSpec.ofChange Rows.numMeansSpec) :=
  OpenClaim.holds_of_wide 8 Try.f8 rfl rfl rfl rfl rfl rfl rfl ⟨rfl, rfl, rfl, rfl, rfl⟩ rfl rfl rfl rfl rfl (by kernel_rfl) Try.func8 (by kernel_rfl)
    (of_decide_eq_true (by kernel_rfl)) (by unfold Func.isWrapper; first | (rw [if_pos (by decide +kernel)]; kernel_rfl) | (rw [if_neg (by decide +kernel)]; exact ⟨rfl, rfl⟩))
    (fun os started H enc _ => lifted os started H enc)
end Go.Proofs.Ytjhhhmeoahbagaa.numMeans
namespace Go.Proofs.Ytjhhhmeoahbagaa
/-- The statement. -/
theorem numMeans_holds : Rows.NumMeansSaid := numMeans.over
#print axioms numMeans_holds
end Go.Proofs.Ytjhhhmeoahbagaa
