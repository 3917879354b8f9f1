/-
  For every size, every deeds and every deed more BitqPlays answers true: behind any deeds the queue tells just what the document's own queue tells. No condition.
-/
import Derived.Test.YthehnicmjiidiaaRows
import Derived.Test.YthehnicmjiidiaaG1
import Derived.WalkKit
import Derived.ProofKit
import Derived.OpenShut
import Derived.RowKit3
import Derived.Laws.Cover2
import Derived.Laws.IdiomArrays
import Derived.ChangeOld
import Derived.Below
import Derived.Carry
import Derived.Lib.SmallJoins
namespace Go.Proofs.Ythehnicmjiidiaa.bitqPlays
open Go.ChangeShapes Go.WideShapes Go.ChangeAt Go.RowKit
set_option linter.unusedVariables false

theorem own : ownKnob Try.prog.godebug = none := by kernel_rfl
theorem laidOut : laidOutB Try.prog = true := by kernel_rfl
theorem cells2 : Try.prog.cellsOf 24 = 3 := by kernel_rfl
open Go.Lib
theorem box_cell0 {w w' : World} {x0 x1 : Int} {x2 : Nat} (h : Below (w.heap.size + 1) (w.alloc (.cells #[.int .i64 x0, .int .i64 x1, .int .u8 x2] 24)) w') :
    w'.cell? ⟨w.heap.size, 0, none⟩ = some (.int .i64 x0) := by rw [h.cell (p := ⟨w.heap.size, 0, none⟩) (by simp), cell_new]; rfl
set_option maxHeartbeats 4000000 in
theorem way (m : Nat) (hm : m < 256) (a : Option Addr) (len cap : Nat) (X Y : Nat → Int) (Z : Nat → Nat) (x0 x1 : Int) (x2 : Nat) (hx2 : x2 < 256) (w : World) (hlen : len < 9223372036854775808) (hd : Deeds w a len X Y Z) :
    Calls Try.prog 3 #[.int .u8 m, .slice a len cap, .agg #[.int .i64 x0, .int .i64 x1, .int .u8 x2]] w fun e w' => e = .returned (.bool true) ∧ Below w.heap.size w w' := by
  have HP := veil (play_ok (w.alloc (.cells #[.int .i64 x0, .int .i64 x1, .int .u8 x2] 24)) m hm a len cap hlen X Y Z (hd.alloc _))
  have hsz : (w.alloc (.cells #[.int .i64 x0, .int .i64 x1, .int .u8 x2] 24)).heap.size = w.heap.size + 1 := by simp
  have HSZ := veil hsz
  clear hd hsz
  go_enter Try.func3, Try.ntmps3
  go_wp2_with (first
    | (go_at_call 10; refine (HP.out).mono ?_; rintro e w1 ⟨b, g, rb, base, v, R, rfl, h1, h2, h3, h4, hB, hL⟩; rw [HSZ.out] at hL; have HB := veil hB; have HL := veil hL; clear hB hL)
    | (go_at_call 11; refine (live_queue _).mono ?_; rintro e w2 ⟨rfl, hb2⟩; have HB2 := veil (HB.out.below hb2); have HL2 := veil (HL.out.trans (hb2.mono (Nat.le_trans (Nat.le_of_eq HSZ.out.symm) HL.out.size))); have d0 := box_cell0 HL2.out; have d1 := (box_cells HL2.out).1; have d2 := (box_cells HL2.out).2; clear hb2)
    | (go_at_call 12; refine (same_ok _ base b g rb _ v R HB2.out x0 x1 x2 hx2).mono ?_; rintro e w3 ⟨rfl, hb3⟩; have HL3 := veil (HL2.out.trans (hb3.mono (Nat.le_trans (Nat.le_of_eq HSZ.out.symm) HL2.out.size))); clear hb3))
  go_ret
  exact ⟨rfl, below_box HL3.out⟩

set_option maxHeartbeats 1000000 in
theorem walk (a0 : Int) (a1 : Option Addr) (len1 cap1 : Nat) (X1 Y1 : Nat → Int) (Z1 : Nat → Nat) (a2x0 a2x1 a2x2 : Int) (w : World) (w0 : (Lit.int .u8 a0).wf = true) (n1 : len1 < 9223372036854775808) (w1 : Deeds w a1 len1 X1 Y1 Z1) (w2x0 : (Lit.int .i64 a2x0).wf = true) (w2x1 : (Lit.int .i64 a2x1).wf = true) (w2x2 : (Lit.int .u8 a2x2).wf = true) :
    Calls Try.prog 3 #[.int .u8 a0, .slice a1 len1 cap1, .agg #[.int .i64 a2x0, .int .i64 a2x1, .int .u8 a2x2]] w fun e w' => e = .returned (.bool true) ∧ Below w.heap.size w w' := by
  obtain ⟨l0, m0⟩ := bounds_u8 w0
  obtain ⟨l2, m2⟩ := bounds_u8 w2x2
  obtain ⟨M, rfl⟩ := Int.eq_ofNat_of_zero_le l0
  obtain ⟨V, rfl⟩ := Int.eq_ofNat_of_zero_le l2
  exact way M (by omega) a1 len1 cap1 X1 Y1 Z1 a2x0 a2x1 V (by omega) w n1 w1

set_option maxHeartbeats 1000000 in
set_option maxRecDepth 100000 in
theorem lifted (os : Os) (started : os.Started) (H : Type) (enc : TypeId × Value → H) :
    ReturnsInHanded {} Try.checked os 3 .any (Rows.bitqPlaysSpec.pre6 enc Try.prog Try.f3 Rows.bitqPlaysRow.domain false) (Rows.bitqPlaysSpec.post enc Try.prog Try.f3 false true false false) := by
  refine returnsInHanded_of_change (C := Try.checked) own started (by kernel_rfl) Try.func3
    (ChangeSpec.witness6 (enc := enc) (C := Try.checked) false ⟨#[], #[.int .u8 0, .slice none 0 0, .agg #[.int .i64 0, .int .i64 0, .int .u8 0]], []⟩ 8 (by kernel_rfl) (by kernel_rfl) (by kernel_rfl) (by kernel_rfl)) ?_
  intro W base args ds gs before hval0 hW hcnd _
  have hval : ∀ (j : Nat) t v, Try.f3.params[j]? = some t → args[j]? = some v → Value.okWide Try.prog W .any base t v := hval0
  have hW' := hW
  obtain ⟨p, q, hA0, hV, rfl, hfz, hnd⟩ := hW
  have hA : DataW.TrodAll enc Try.prog W 0 (fun _ => true) true Try.f3.params.toList args.toList ds p := hA0
  rw [Try.params3] at hA hval
  obtain ⟨v0, vs0, d0, ds0, p0, q0, hargs, rfl, rfl, h0, r0⟩ := trodAll_cons hA
  obtain ⟨v1, vs1, d1, ds1, p1, q1, rfl, rfl, rfl, h1, r1⟩ := trodAll_cons r0
  obtain ⟨v2, vs2, d2, ds2, p2, q2, rfl, rfl, rfl, h2, r2⟩ := trodAll_cons r1
  obtain ⟨rfl, rfl, rfl⟩ := trodAll_nil r2
  obtain rfl : args = #[v0, v1, v2] := by cases args; simp_all
  obtain ⟨rfl, rfl⟩ := trodVars_none hV
  have k0 := h0
  have lt0 : ∀ x ∈ p0, x.block < W.heap.size := by obtain ⟨m, hm⟩ := k0; exact DataW.trod_lt m _ _ _ hm
  obtain ⟨a0, rfl, rfl, rfl, w0⟩ := open_int Try.underlying5 (hval 0 5 v0 rfl rfl) h0
  have k1 := h1
  have lt1 : ∀ x ∈ p1, x.block < W.heap.size := by obtain ⟨m, hm⟩ := k1; exact DataW.trod_lt m _ _ _ hm
  obtain ⟨a1, len1, cap1, rfl⟩ := okWide_slice Try.underlying22 (hval 1 22 v1 rfl rfl)
  obtain ⟨n1, X1, Y1, Z1, w1⟩ : len1 < 9223372036854775808 ∧ ∃ (X Y : Nat → Int) (Z : Nat → Nat), Deeds W a1 len1 X Y Z := by
    obtain ⟨fuel, hf⟩ := h1
    exact open_deeds Try.underlying22 Try.underlying24 rfl rfl rfl rfl rfl rfl Try.underlying3 Try.underlying5 (by kernel_rfl) (by kernel_rfl) (by kernel_rfl) hf
  have k2 := h2
  have lt2 : ∀ x ∈ p2, x.block < W.heap.size := by obtain ⟨m, hm⟩ := k2; exact DataW.trod_lt m _ _ _ hm
  obtain ⟨c20, c21, c22, y20, y21, y22, m2, rfl, rfl, rfl, hy20, hy21, hy22⟩ := Go.Joins.open_agg3 Try.underlying24 (by kernel_rfl) cells2 (hval 2 24 v2 rfl rfl) h2
  obtain ⟨a2x0, e20, rfl, w2x0⟩ := DataW.trod_int Try.underlying3 hy20
  obtain ⟨a2x1, e21, rfl, w2x1⟩ := DataW.trod_int Try.underlying3 hy21
  obtain ⟨a2x2, e22, rfl, w2x2⟩ := DataW.trod_int Try.underlying5 hy22
  simp at e20 e21 e22
  subst e20 e21 e22
  clear hA0 hval0
  refine (walk a0 a1 len1 cap1 X1 Y1 Z1 a2x0 a2x1 a2x2 W w0 n1 w1 w2x0 w2x1 w2x2).mono fun e W' ⟨he, bel⟩ => ?_
  subst he
  exact ⟨_, rfl, _, _, _, [], _, [], hW', trodAll_mk1 (shut_bool Try.underlying4 _), (trodAll_cons_mk (Below.trod laidOut (by kernel_rfl) (of_decide_eq_true (by kernel_rfl)) k0 bel lt0) (trodAll_cons_mk (Below.trod laidOut (by kernel_rfl) (of_decide_eq_true (by kernel_rfl)) k1 bel lt1) (trodAll_cons_mk (Below.trod laidOut (by kernel_rfl) (of_decide_eq_true (by kernel_rfl)) k2 bel lt2) trodAll_mk0))), rfl, bel.frame _, fun h => by cases h⟩

theorem over : Rows.bitqPlaysRow.holds Try.pinned (OpenSpec.ofChange Rows.bitqPlaysSpec) :=
  OpenClaim.holds_of_wide 3 Try.f3 rfl rfl rfl rfl rfl rfl rfl ⟨rfl, rfl, rfl, rfl, rfl⟩ rfl rfl rfl rfl rfl (by kernel_rfl) Try.func3 (by kernel_rfl)
    (of_decide_eq_true (by kernel_rfl)) (by unfold Func.isWrapper; first | (rw [if_pos (by decide +kernel)]; kernel_rfl) | (rw [if_neg (by decide +kernel)]; exact ⟨rfl, rfl⟩))
    (fun os started H enc _ => lifted os started H enc)
end Go.Proofs.Ythehnicmjiidiaa.bitqPlays
namespace Go.Proofs.Ythehnicmjiidiaa
/-- The statement. -/
theorem bitqPlays_holds : Rows.BitqPlaysSaid := bitqPlays.over
#print axioms bitqPlays_holds
end Go.Proofs.Ythehnicmjiidiaa
