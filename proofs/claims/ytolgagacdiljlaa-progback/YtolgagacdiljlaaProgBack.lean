/-
  ProgBack: Decode of Encode is the program; Encode of Decode are the bytes.
-/
import Derived.Test.YtolgagacdiljlaaRows
import Derived.Test.YtolgagacdiljlaaO21
import Derived.WalkKit
import Derived.ProofKit
import Derived.OpenShut
import Derived.RowKit3
import Derived.Laws.Cover2
import Derived.Laws.IdiomArrays
import Derived.ChangeOld
import Derived.Below
import Derived.Carry
import Derived.Lib.SmallJoins
namespace Go.Proofs.Ytolgagacdiljlaa.progBack
open Go.ChangeShapes Go.WideShapes Go.ChangeAt Go.RowKit
set_option linter.unusedVariables false

theorem own : ownKnob Try.prog.godebug = none := by kernel_rfl
theorem laidOut : laidOutB Try.prog = true := by kernel_rfl

set_option maxHeartbeats 1000000 in
theorem walk (a0 : Option Addr) (len0 cap0 : Nat) (O0 R0 : Nat → Int) (a1 : Option Addr) (len1 cap1 : Nat) (X1 : Nat → Nat) (w : World) (n0 : len0 < 9223372036854775808) (c0 : len0 ≤ cap0) (m0 : cap0 < 9223372036854775808) (w0 : Prg w a0 len0 O0 R0) (n1 : len1 < 9223372036854775808) (c1 : len1 ≤ cap1) (m1 : cap1 < 9223372036854775808) (w1 : Byt w a1 len1 X1) :
    Calls Try.prog 5 #[.slice a0 len0 cap0, .slice a1 len1 cap1] w fun e w' => e = .returned (.bool true) ∧ Below w.heap.size w w' := by
  have hp := w0.cut (m := min len0 100) (by omega)
  have HF := veil (few_ok w a0 len0 cap0 n0 c0 O0 R0 w0)
  have HL := veil live_ok
  clear w0
  have hm : min len0 100 < 9223372036854775808 := by omega
  generalize min len0 100 = m at HF hp hm
  by_cases hyes : len1 = 1 + 4 * X1 0 ∧ Rt (X1 0) (deO X1) (deR X1)
  · obtain ⟨he2, hr2⟩ := hyes
    obtain ⟨lb, off, ha1, hlb, hx⟩ : ∃ lb off, a1 = some ⟨lb, off, none⟩ ∧ lb < w.heap.size ∧ ∀ j, j < len1 → w.cell? ⟨lb, off + j, none⟩ = some (.int .u8 (X1 j : Int)) ∧ X1 j < 256 := by
      rcases w1 with h | h
      · omega
      · exact h
    have hx0 := (hx 0 (by omega)).2
    have HD2 := veil (fun w3 (hb : Below w.heap.size w w3) => decode_yes w3 a1 len1 cap1 X1 (w1.below hb) c1 m1 hx0 he2 hr2)
    have hxs : ∀ j, j < 1 + 4 * X1 0 → X1 j < 256 := fun j hj => (hx j (by omega)).2
    have HX1 : Hid (∀ (W : World) (base : Nat) (v : Value), W.ownsRow base 5 1 v (1 + 4 * X1 0) (enc (X1 0) (deO X1) (deR X1) (X1 0)) → (convert 29 9 v).run Try.prog W = .ok (.string (strOfNums ((List.range len1).map fun j => (X1 j : Int)))) W) := by
      intro W base v h
      rw [enc_de _ hxs, ← he2] at h
      refine str_row W base v len1 _ ?_
      simpa [u8s, Function.comp_def] using h
    have HX2 : Hid (∀ W, Below w.heap.size w W → (convert 29 9 (.slice a1 len1 cap1)).run Try.prog W = .ok (.string (strOfNums ((List.range len1).map fun j => (X1 j : Int)))) W) := by
      intro W hb
      rw [ha1]
      refine run_convert_bytes_arg W _ _ Try.underlying29 Try.underlying5 lb off len1 cap1 _ (by simp) (fun i hi => ?_) _ Try.underlying9
      rw [(hb.cell (p := ⟨lb, off + i, none⟩) hlb).trans (hx i hi).1]
      simp [List.getD, hi]
    generalize strOfNums ((List.range len1).map fun j => (X1 j : Int)) = S at HX1 HX2
    clear hx hxs ha1 hlb he2 w1
    by_cases hr : Rt m O0 R0
    · have HE1 := veil (encode_yes w a0 m cap0 hm O0 R0 hp hr)
      obtain ⟨hl1, hl2⟩ : 1 ≤ m ∧ m ≤ 64 := by obtain ⟨y, h⟩ := hr; exact ⟨h.zero.1, h.zero.2.1⟩
      go_enter Try.func5, Try.ntmps5
      go_wp2_with (first
            | (go_at_call 12; refine (HF.out).mono ?_; rintro e w0 ⟨rfl, hw⟩; replace hw := hw.symm; subst hw)
            | (go_at_call 16; refine (HE1.out).mono ?_; rintro e w1 ⟨v, rfl, ho, hb⟩; obtain ⟨va, vc, rfl, hdec⟩ := decode_own _ _ _ m O0 R0 hr ho; have HDO := veil hdec; have HB1 := veil hb; clear ho hb hdec HE1)
            | (go_at_call 18; refine (HDO.out).mono ?_; rintro e w2 ⟨a2, c2, rfl, hp2, hb⟩; have HP2 := veil hp2; have HB2 := veil (HB1.out.trans (hb.mono HB1.out.size)); clear hp2 hb HDO)
            | (go_at_call 20; refine (psame hl1 hl2 (hp.below HB2.out) HP2.out).mono ?_; rintro e w3 ⟨rfl, hb⟩; have HB3 := veil (HB2.out.trans (hb.mono HB2.out.size)); clear hb HP2)
            | (go_at_call 18; refine (HD2.out _ HB3.out).mono ?_; rintro e w4 ⟨a4, c4, rfl, hp4, hb⟩; have HP4 := veil hp4; have HB4 := veil (HB3.out.trans (hb.mono HB3.out.size)); clear hp4 hb HD2)
            | (go_at_call 16; refine (encode_yes _ _ _ _ (by omega) _ _ HP4.out hr2).mono ?_; rintro e w5 ⟨v5, rfl, ho, hb⟩; have HO5 := veil ho; have HB5 := veil (HB4.out.trans (hb.mono HB4.out.size)); clear ho hb HP4)
            | (go_at_call 15; refine (HL.out _).mono ?_; rintro e w6 ⟨rfl, hb⟩; have HB6 := veil (HB5.out.trans (hb.mono HB5.out.size)); have hs1 := HX1.out _ _ _ (row_below HO5.out hb); have hs2 := HX2.out _ HB6.out; clear hb HL))
      go_ret
      exact ⟨by simp, HB6.out⟩
    · have HE1 := veil (encode_no w a0 m cap0 hm O0 R0 hp hr)
      clear hp hr
      go_enter Try.func5, Try.ntmps5
      go_wp2_with (first
            | (go_at_call 12; refine (HF.out).mono ?_; rintro e w0 ⟨rfl, hw⟩; replace hw := hw.symm; subst hw)
            | (go_at_call 16; refine (HE1.out).mono ?_; rintro e w3 ⟨rfl, hb⟩; have HB3 := veil hb; clear hb HE1)
            | (go_at_call 18; refine (HD2.out _ HB3.out).mono ?_; rintro e w4 ⟨a4, c4, rfl, hp4, hb⟩; have HP4 := veil hp4; have HB4 := veil (HB3.out.trans (hb.mono HB3.out.size)); clear hp4 hb HD2)
            | (go_at_call 16; refine (encode_yes _ _ _ _ (by omega) _ _ HP4.out hr2).mono ?_; rintro e w5 ⟨v5, rfl, ho, hb⟩; have HO5 := veil ho; have HB5 := veil (HB4.out.trans (hb.mono HB4.out.size)); clear ho hb HP4)
            | (go_at_call 15; refine (HL.out _).mono ?_; rintro e w6 ⟨rfl, hb⟩; have HB6 := veil (HB5.out.trans (hb.mono HB5.out.size)); have hs1 := HX1.out _ _ _ (row_below HO5.out hb); have hs2 := HX2.out _ HB6.out; clear hb HL))
      go_ret
      exact ⟨by simp, HB6.out⟩
  · have HD2 : Hid (∀ w3, Below w.heap.size w w3 → Calls Try.prog 18 #[.slice a1 len1 cap1] w3 fun e w' => e = .returned (.tuple #[.slice none 0 0, .int .i64 3]) ∧ Below w3.heap.size w3 w') := by
      intro w3 hb
      by_cases he : len1 = 1 + 4 * X1 0
      · have hx0 : X1 0 < 256 := by
          rcases w1 with h | ⟨_, _, _, _, h⟩
          · omega
          · exact (h 0 (by omega)).2
        exact decode_wrong w3 a1 len1 cap1 X1 (w1.below hb) c1 m1 hx0 he (fun q => hyes ⟨he, q⟩)
      · exact decode_cut w3 a1 len1 cap1 X1 (w1.below hb) c1 m1 he
    clear hyes w1
    by_cases hr : Rt m O0 R0
    · have HE1 := veil (encode_yes w a0 m cap0 hm O0 R0 hp hr)
      obtain ⟨hl1, hl2⟩ : 1 ≤ m ∧ m ≤ 64 := by obtain ⟨y, h⟩ := hr; exact ⟨h.zero.1, h.zero.2.1⟩
      go_enter Try.func5, Try.ntmps5
      go_wp2_with (first
            | (go_at_call 12; refine (HF.out).mono ?_; rintro e w0 ⟨rfl, hw⟩; replace hw := hw.symm; subst hw)
            | (go_at_call 16; refine (HE1.out).mono ?_; rintro e w1 ⟨v, rfl, ho, hb⟩; obtain ⟨va, vc, rfl, hdec⟩ := decode_own _ _ _ m O0 R0 hr ho; have HDO := veil hdec; have HB1 := veil hb; clear ho hb hdec HE1)
            | (go_at_call 18; refine (HDO.out).mono ?_; rintro e w2 ⟨a2, c2, rfl, hp2, hb⟩; have HP2 := veil hp2; have HB2 := veil (HB1.out.trans (hb.mono HB1.out.size)); clear hp2 hb HDO)
            | (go_at_call 20; refine (psame hl1 hl2 (hp.below HB2.out) HP2.out).mono ?_; rintro e w3 ⟨rfl, hb⟩; have HB3 := veil (HB2.out.trans (hb.mono HB2.out.size)); clear hb HP2)
            | (go_at_call 18; refine (HD2.out _ HB3.out).mono ?_; rintro e w4 ⟨rfl, hb⟩; have HB4 := veil (HB3.out.trans (hb.mono HB3.out.size)); clear hb HD2)
            | (go_at_call 15; refine (HL.out _).mono ?_; rintro e w6 ⟨rfl, hb⟩; have HB6 := veil (HB4.out.trans (hb.mono HB4.out.size)); clear hb HL))
      go_ret
      exact ⟨by simp, HB6.out⟩
    · have HE1 := veil (encode_no w a0 m cap0 hm O0 R0 hp hr)
      clear hp hr
      go_enter Try.func5, Try.ntmps5
      go_wp2_with (first
            | (go_at_call 12; refine (HF.out).mono ?_; rintro e w0 ⟨rfl, hw⟩; replace hw := hw.symm; subst hw)
            | (go_at_call 16; refine (HE1.out).mono ?_; rintro e w3 ⟨rfl, hb⟩; have HB3 := veil hb; clear hb HE1)
            | (go_at_call 18; refine (HD2.out _ HB3.out).mono ?_; rintro e w4 ⟨rfl, hb⟩; have HB4 := veil (HB3.out.trans (hb.mono HB3.out.size)); clear hb HD2)
            | (go_at_call 15; refine (HL.out _).mono ?_; rintro e w6 ⟨rfl, hb⟩; have HB6 := veil (HB4.out.trans (hb.mono HB4.out.size)); clear hb HL))
      go_ret
      exact ⟨by simp, HB6.out⟩

set_option maxHeartbeats 1000000 in
set_option maxRecDepth 100000 in
theorem lifted (os : Os) (started : os.Started) (H : Type) (enc : TypeId × Value → H) :
    ReturnsInHanded {} Try.checked os 5 .any (Rows.progBackSpec.pre6 enc Try.prog Try.f5 Rows.progBackRow.domain false) (Rows.progBackSpec.post enc Try.prog Try.f5 false true false false) := by
  refine returnsInHanded_of_change (C := Try.checked) own started (by kernel_rfl) Try.func5
    (ChangeSpec.witness6 (enc := enc) (C := Try.checked) false ⟨#[], #[.slice none 0 0, .slice none 0 0], []⟩ 8 (by kernel_rfl) (by kernel_rfl) (by kernel_rfl) (by kernel_rfl)) ?_
  intro W base args ds gs before hval0 hW hcnd _
  have hval : ∀ (j : Nat) t v, Try.f5.params[j]? = some t → args[j]? = some v → Value.okWide Try.prog W .any base t v := hval0
  have hW' := hW
  obtain ⟨p, q, hA0, hV, rfl, hfz, hnd⟩ := hW
  have hA : DataW.TrodAll enc Try.prog W 0 (fun _ => true) true Try.f5.params.toList args.toList ds p := hA0
  rw [Try.params5] at hA hval
  obtain ⟨v0, vs0, d0, ds0, p0', q0', hargs, rfl, rfl, h0, r0⟩ := trodAll_cons hA
  obtain ⟨v1, vs1, d1, ds1, p1', q1', rfl, rfl, rfl, h1, r1⟩ := trodAll_cons r0
  obtain ⟨rfl, rfl, rfl⟩ := trodAll_nil r1
  obtain rfl : args = #[v0, v1] := by cases args; simp_all
  obtain ⟨rfl, rfl⟩ := trodVars_none hV
  have kk0 := h0
  have lt0 : ∀ x ∈ p0', x.block < W.heap.size := by obtain ⟨m, hm⟩ := kk0; exact DataW.trod_lt m _ _ _ hm
  obtain ⟨a0, len0, cap0, rfl⟩ := okWide_slice Try.underlying22 (hval 0 22 v0 rfl rfl)
  obtain ⟨n0, c0, m0, O0, R0, w0⟩ : len0 < 9223372036854775808 ∧ len0 ≤ cap0 ∧ cap0 < 9223372036854775808 ∧ ∃ (O R : Nat → Int), Prg W a0 len0 O R := by
    obtain ⟨fuel, hf⟩ := h0
    exact open_prg hf
  have kk1 := h1
  have lt1 : ∀ x ∈ p1', x.block < W.heap.size := by obtain ⟨m, hm⟩ := kk1; exact DataW.trod_lt m _ _ _ hm
  obtain ⟨a1, len1, cap1, rfl⟩ := okWide_slice Try.underlying29 (hval 1 29 v1 rfl rfl)
  obtain ⟨n1, c1, m1, X1, w1⟩ : len1 < 9223372036854775808 ∧ len1 ≤ cap1 ∧ cap1 < 9223372036854775808 ∧ ∃ (X : Nat → Nat), Byt W a1 len1 X := by
    obtain ⟨fuel, hf⟩ := h1
    exact open_byt hf
  clear hA0 hval0
  refine (walk a0 len0 cap0 O0 R0 a1 len1 cap1 X1 W n0 c0 m0 w0 n1 c1 m1 w1).mono fun e W' ⟨he, bel⟩ => ?_
  subst he
  exact ⟨_, rfl, _, _, _, [], _, [], hW', trodAll_mk1 (shut_bool Try.underlying4 _), (trodAll_cons_mk (Below.trod laidOut (by kernel_rfl) (of_decide_eq_true (by kernel_rfl)) kk0 bel lt0) (trodAll_cons_mk (Below.trod laidOut (by kernel_rfl) (of_decide_eq_true (by kernel_rfl)) kk1 bel lt1) trodAll_mk0)), rfl, bel.frame _, fun h => by cases h⟩

theorem over : Rows.progBackRow.holds Try.pinned (OpenSpec.ofChange Rows.progBackSpec) :=
  OpenClaim.holds_of_wide 5 Try.f5 rfl rfl rfl rfl rfl rfl rfl ⟨rfl, rfl, rfl, rfl, rfl⟩ rfl rfl rfl rfl rfl (by kernel_rfl) Try.func5 (by kernel_rfl)
    (of_decide_eq_true (by kernel_rfl)) (by unfold Func.isWrapper; first | (rw [if_pos (by decide +kernel)]; kernel_rfl) | (rw [if_neg (by decide +kernel)]; exact ⟨rfl, rfl⟩))
    (fun os started H enc _ => lifted os started H enc)
end Go.Proofs.Ytolgagacdiljlaa.progBack
namespace Go.Proofs.Ytolgagacdiljlaa
/-- The statement. -/
theorem progBack_holds : Rows.ProgBackSaid := progBack.over
#print axioms progBack_holds
end Go.Proofs.Ytolgagacdiljlaa
