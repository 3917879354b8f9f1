/-
  ProgCuts: bytes that are cut, or with more behind, are no program.
-/
import Derived.Test.YtolgagacdiljlaaRows
import Derived.Test.YtolgagacdiljlaaO19
import Derived.WalkKit
import Derived.ProofKit
import Derived.OpenShut
import Derived.RowKit3
import Derived.Laws.Cover2
import Derived.Laws.IdiomArrays
import Derived.ChangeOld
import Derived.Below
import Derived.Carry
import Derived.Lib.SmallJoins
namespace Go.Proofs.Ytolgagacdiljlaa.progCuts
open Go.ChangeShapes Go.WideShapes Go.ChangeAt Go.RowKit
set_option linter.unusedVariables false

theorem own : ownKnob Try.prog.godebug = none := by kernel_rfl
theorem laidOut : laidOutB Try.prog = true := by kernel_rfl

set_option maxHeartbeats 1000000 in
theorem walk (a0 : Option Addr) (len0 cap0 : Nat) (O0 R0 : Nat → Int) (a1 : Int) (w : World) (n0 : len0 < 9223372036854775808) (c0 : len0 ≤ cap0) (m0 : cap0 < 9223372036854775808) (w0 : Prg w a0 len0 O0 R0) (w1 : (Lit.int .u16 a1).wf = true) :
    Calls Try.prog 8 #[.slice a0 len0 cap0, .int .u16 a1] w fun e w' => e = .returned (.bool true) ∧ Below w.heap.size w w' := by
  have hp := w0.cut (m := min len0 100) (by omega)
  have HF := veil (few_ok w a0 len0 cap0 n0 c0 O0 R0 w0)
  have HL := veil live_ok
  obtain ⟨A, rfl, hA⟩ : ∃ A : Nat, a1 = (A : Int) ∧ A < 65536 := by
    have hz : 0 ≤ a1 ∧ a1 < 65536 := by
      simp [Lit.wf, IntKind.min, IntKind.max, IntKind.bits, IntKind.signed] at w1
      omega
    exact ⟨a1.toNat, by omega, by omega⟩
  clear w0 w1
  have hm : min len0 100 < 9223372036854775808 := by omega
  generalize min len0 100 = m at HF hp hm
  by_cases hr : Rt m O0 R0
  · have HE := veil (encode_yes w a0 m cap0 hm O0 R0 hp hr)
    obtain ⟨y0, hy0⟩ := hr
    obtain ⟨hl1, hl2, hall, _, _⟩ := hy0.zero
    obtain ⟨ys, e1, e2, e3, e4⟩ := enc_bytes hl2 m (Nat.le_refl _) hall
    have HY := veil e1
    have HY3 := veil e3
    have HY4 := veil e4
    clear hy0 hall hp e1 e3 e4
    obtain ⟨L, hLe⟩ : ∃ L, L = ys.length := ⟨_, rfl⟩
    obtain ⟨j, hj, hjl⟩ : ∃ j, j = A % L ∧ j < L := ⟨_, rfl, Nat.mod_lt _ (by omega)⟩
    have hmod : Int.tmod (A : Int) (L : Int) = (j : Int) := by rw [hj]; rfl
    have hL0 : ¬ (L : Int) = 0 := by omega
    have hLb : (L : Int) = 1 + 4 * (m : Int) := by omega
    have HLb := veil hLb
    have HLN : Hid (L = 1 + 4 * m) := by show L = 1 + 4 * m; omega
    have HLe := veil hLe
    have hLs : L ≤ 257 := by omega
    have HD : Hid (∀ (w2 : World) (v : Value), w2.ownsRow w.heap.size 5 1 v (1 + 4 * m) (enc m O0 R0 m) → ∃ g cap, v = .slice (some ⟨g, 0, none⟩) L cap ∧ L ≤ cap ∧ cap < 9223372036854775808 ∧ g < w2.heap.size ∧ (∀ i, i < L → w2.cell? ⟨g, 0 + i, none⟩ = some (.int .u8 ((ys.getD i 0 : Nat) : Int)) ∧ ys.getD i 0 < 256)) := by
      intro w2 v h
      rw [HY.out, ← HLN.out, HLe.out] at h
      obtain ⟨g, cap, q1, q2, q3, q4, q5, q6⟩ := byt_row h (by omega) HY4.out
      rw [HLe.out]
      exact ⟨g, cap, q1, q2, by unfold maxLen at q3; omega, q5, q6⟩
    have HY0 : Hid (ys.getD 0 0 = m) := HY3.out
    have HY9 : Hid ((ys ++ [9]).getD 0 0 = m) := by
      show (ys ++ [9]).getD 0 0 = m
      rw [← HY3.out]
      unfold List.getD
      rw [List.getElem?_append_left (by omega)]
    have HA : Hid (∀ (W : World) (g : Nat), (∀ i, i < L → W.cell? ⟨g, 0 + i, none⟩ = some (.int .u8 ((ys.getD i 0 : Nat) : Int)) ∧ ys.getD i 0 < 256) → g < W.heap.size → ∀ jj u, (u8s ys)[jj]? = some u → (W.alloc (.cells #[] 5)).cell? ((⟨g, 0, none⟩ : Addr).add jj) = some u) := by
      intro W g h hg jj u hu
      have hadd : (⟨g, 0, none⟩ : Addr).add jj = ⟨g, 0 + jj, none⟩ := by unfold Addr.add; split <;> simp_all
      rw [hadd]
      have hlt : jj < L := by
        have := (List.getElem?_eq_some_iff.1 hu).1
        simpa [u8s, ← HLe.out] using this
      refine (((Below.refl W.heap.size W).alloc (Nat.le_refl _) _).cell (p := ⟨g, 0 + jj, none⟩) hg).trans ?_
      rw [(h jj hlt).1]
      unfold u8s at hu
      rw [List.getElem?_map, List.getElem?_eq_getElem (by rw [← HLe.out]; exact hlt)] at hu
      simp at hu
      rw [← hu]
      simp [List.getD, List.getElem?_eq_getElem (show jj < ys.length by rw [← HLe.out]; exact hlt)]
    have heq : ((L : Int) == 1 + 4 * (m : Int)) = true := by simp; omega
    have HD4 : Hid (∀ (w4 : World) (v : Value), w4.ownsRow w.heap.size 5 1 v (0 + L + 1) (([] ++ u8s ys) ++ [.int .u8 9]) → ∃ g cap, v = .slice (some ⟨g, 0, none⟩) (L + 1) cap ∧ L + 1 ≤ cap ∧ cap < 9223372036854775808 ∧ g < w4.heap.size ∧ (∀ i, i < L + 1 → w4.cell? ⟨g, 0 + i, none⟩ = some (.int .u8 (((ys ++ [9]).getD i 0 : Nat) : Int)) ∧ (ys ++ [9]).getD i 0 < 256)) := by
      intro w4 v h
      have hlen : (ys ++ [9]).length = L + 1 := by simp [HLe.out]
      have he : ([] ++ u8s ys) ++ [Value.int .u8 9] = u8s (ys ++ [9]) := by simp [u8s]
      rw [he, Nat.zero_add, ← hlen] at h
      obtain ⟨g, cap, q1, q2, q3, q4, q5, q6⟩ := byt_row h (by omega) (fun y hy => by
        rcases List.mem_append.1 hy with q | q
        · exact HY4.out y q
        · simp at q; omega)
      rw [hlen] at q1 q2 q6
      exact ⟨g, cap, q1, q2, by unfold maxLen at q3; omega, q5, q6⟩
    clear hLb e2 hLe hj HY HY3 HY4
    obtain ⟨i0, hi, hz0, hz1, hz2⟩ := info_parts info_u8
    go_enter Try.func8, Try.ntmps8
    go_wp2_with (first
      | (go_at_call 12; refine (HF.out).mono ?_; rintro e w0 ⟨rfl, hw⟩; replace hw := hw.symm; subst hw)
      | (go_at_call 16; refine (HE.out).mono ?_; rintro e w1 ⟨v, rfl, ho, hb⟩; obtain ⟨g, cap, rfl, hgc, hgm, hgl, hcells⟩ := HD.out _ _ ho; have HB := veil hb; have HC := veil hcells; have HGL := veil hgl; have hjc : (j : Int) ≤ (cap : Int) := (by omega); clear ho hb hcells hgl)
      | (go_at_call 18; refine (decode_cut w1 _ j cap (fun i => ys.getD i 0) (.inr ⟨g, 0, rfl, HGL.out, fun i hi => HC.out i (by omega)⟩) (by omega) hgm (by have q1 := HY0.out; have q2 := HLN.out; show j ≠ 1 + 4 * ys.getD 0 0; omega)).mono ?_; rintro e w2 ⟨rfl, hb⟩; have HC2 : Hid (∀ i, i < L → w2.cell? ⟨g, 0 + i, none⟩ = some (.int .u8 ((ys.getD i 0 : Nat) : Int)) ∧ ys.getD i 0 < 256) := (fun i hi => ⟨(hb.cell (p := ⟨g, 0 + i, none⟩) HGL.out).trans (HC.out i hi).1, (HC.out i hi).2⟩); have HB2 := veil (HB.out.trans (hb.mono HB.out.size)); have HG2 : Hid (g < w2.heap.size) := Nat.lt_of_lt_of_le HGL.out hb.size; clear hb HC HGL HE)
      | (at_builtin; refine wpList_append_own _ rfl _ _ 29 rfl w.heap.size 5 i0 (.int .u8 0) 1 1 Try.underlying29 hi hz0 hz1 hz2 rfl (by decide) (.slice (some ⟨w2.heap.size, 0, none⟩) 0 0) 0 [] rfl (World.ownsRow_lit (base := w.heap.size) (e := 5) (size := 1) w2 #[] 0 HB2.out.size (by simp [maxLen]) rfl) ⟨g, 0, none⟩ L cap (u8s ys) rfl (by simp [u8s, HLe.out]) (HA.out _ _ HC2.out HG2.out) (by intro u hu; simp [u8s] at hu; obtain ⟨x, _, rfl⟩ := hu; rfl) (by unfold maxLen; omega) (by omega) (Nat.le_trans HB2.out.size (by simp)) ?_; intro v3 w3 ho hg _; have HO3 := veil ho; have HB3 := veil ((HB2.out.alloc HB2.out.size _).grown hg (Nat.le_trans HB2.out.size (by simp)) (fun q hq => by simp [Value.ownBlock] at hq; have := HB2.out.size; omega)); clear ho hg HC2 HA)
      | (at_builtin; refine wpList_append_own _ rfl _ _ 29 rfl w.heap.size 5 i0 (.int .u8 0) 1 1 Try.underlying29 hi hz0 hz1 hz2 rfl (by decide) _ _ _ rfl (World.ownsRow.alloc HO3.out _) ⟨w3.heap.size, 0, none⟩ 1 1 [.int .u8 9] rfl rfl (cell_one_new _ _ _) (by simp [Value.oneCell']) (by unfold maxLen; omega) (by omega) (Nat.le_trans HB3.out.size (by simp)) ?_; intro v4 w4 ho hg _; obtain ⟨g4, cap4, rfl, q1, q2, q3, q4⟩ := HD4.out _ _ ho; have HC4 := veil q4; have HGL4 := veil q3; have HB4 := veil ((HB3.out.alloc HB3.out.size _).grown hg (Nat.le_trans HB3.out.size (by simp)) (fun q hq => (HO3.out.lt q hq).1)); clear ho hg q3 q4)
      | (go_at_call 18; refine (decode_cut w4 _ (L + 1) cap4 (fun i => (ys ++ [9]).getD i 0) (.inr ⟨g4, 0, rfl, HGL4.out, fun i hi => HC4.out i (by omega)⟩) (by omega) q2 (by have q5 := HY9.out; have q6 := HLN.out; show L + 1 ≠ 1 + 4 * (ys ++ [9]).getD 0 0; omega)).mono ?_; rintro e w5 ⟨rfl, hb⟩; have HB5 := veil (HB4.out.trans (hb.mono HB4.out.size)); clear hb)
      | (go_at_call 15; refine (HL.out _).mono ?_; rintro e w6 ⟨rfl, hb⟩; have HB6 := veil (HB5.out.trans (hb.mono HB5.out.size)); clear hb))
    go_ret
    exact ⟨rfl, HB6.out⟩
  · have HE := veil (encode_no w a0 m cap0 hm O0 R0 hp hr)
    clear hp hr
    go_enter Try.func8, Try.ntmps8
    go_wp2_with (first
      | (go_at_call 12; refine (HF.out).mono ?_; rintro e w0 ⟨rfl, hw⟩; replace hw := hw.symm; subst hw)
      | (go_at_call 16; refine (HE.out).mono ?_; rintro e w1 ⟨rfl, hb⟩; have HB := veil hb; clear hb)
      | (go_at_call 15; refine (HL.out _).mono ?_; rintro e w2 ⟨rfl, hb⟩; have HB2 := veil (HB.out.trans (hb.mono HB.out.size)); clear hb))
    go_ret
    exact ⟨rfl, HB2.out⟩

set_option maxHeartbeats 1000000 in
set_option maxRecDepth 100000 in
theorem lifted (os : Os) (started : os.Started) (H : Type) (enc : TypeId × Value → H) :
    ReturnsInHanded {} Try.checked os 8 .any (Rows.progCutsSpec.pre6 enc Try.prog Try.f8 Rows.progCutsRow.domain false) (Rows.progCutsSpec.post enc Try.prog Try.f8 false true false false) := by
  refine returnsInHanded_of_change (C := Try.checked) own started (by kernel_rfl) Try.func8
    (ChangeSpec.witness6 (enc := enc) (C := Try.checked) false ⟨#[], #[.slice none 0 0, .int .u16 0], []⟩ 8 (by kernel_rfl) (by kernel_rfl) (by kernel_rfl) (by kernel_rfl)) ?_
  intro W base args ds gs before hval0 hW hcnd _
  have hval : ∀ (j : Nat) t v, Try.f8.params[j]? = some t → args[j]? = some v → Value.okWide Try.prog W .any base t v := hval0
  have hW' := hW
  obtain ⟨p, q, hA0, hV, rfl, hfz, hnd⟩ := hW
  have hA : DataW.TrodAll enc Try.prog W 0 (fun _ => true) true Try.f8.params.toList args.toList ds p := hA0
  rw [Try.params8] at hA hval
  obtain ⟨v0, vs0, d0, ds0, p0', q0', hargs, rfl, rfl, h0, r0⟩ := trodAll_cons hA
  obtain ⟨v1, vs1, d1, ds1, p1', q1', rfl, rfl, rfl, h1, r1⟩ := trodAll_cons r0
  obtain ⟨rfl, rfl, rfl⟩ := trodAll_nil r1
  obtain rfl : args = #[v0, v1] := by cases args; simp_all
  obtain ⟨rfl, rfl⟩ := trodVars_none hV
  have kk0 := h0
  have lt0 : ∀ x ∈ p0', x.block < W.heap.size := by obtain ⟨m, hm⟩ := kk0; exact DataW.trod_lt m _ _ _ hm
  obtain ⟨a0, len0, cap0, rfl⟩ := okWide_slice Try.underlying22 (hval 0 22 v0 rfl rfl)
  obtain ⟨n0, c0, m0, O0, R0, w0⟩ : len0 < 9223372036854775808 ∧ len0 ≤ cap0 ∧ cap0 < 9223372036854775808 ∧ ∃ (O R : Nat → Int), Prg W a0 len0 O R := by
    obtain ⟨fuel, hf⟩ := h0
    exact open_prg hf
  have kk1 := h1
  have lt1 : ∀ x ∈ p1', x.block < W.heap.size := by obtain ⟨m, hm⟩ := kk1; exact DataW.trod_lt m _ _ _ hm
  obtain ⟨a1, rfl, rfl, rfl, w1⟩ := open_int Try.underlying44 (hval 1 44 v1 rfl rfl) h1
  clear hA0 hval0
  refine (walk a0 len0 cap0 O0 R0 a1 W n0 c0 m0 w0 w1).mono fun e W' ⟨he, bel⟩ => ?_
  subst he
  exact ⟨_, rfl, _, _, _, [], _, [], hW', trodAll_mk1 (shut_bool Try.underlying4 _), (trodAll_cons_mk (Below.trod laidOut (by kernel_rfl) (of_decide_eq_true (by kernel_rfl)) kk0 bel lt0) (trodAll_cons_mk (Below.trod laidOut (by kernel_rfl) (of_decide_eq_true (by kernel_rfl)) kk1 bel lt1) trodAll_mk0)), rfl, bel.frame _, fun h => by cases h⟩

theorem over : Rows.progCutsRow.holds Try.pinned (OpenSpec.ofChange Rows.progCutsSpec) :=
  OpenClaim.holds_of_wide 8 Try.f8 rfl rfl rfl rfl rfl rfl rfl ⟨rfl, rfl, rfl, rfl, rfl⟩ rfl rfl rfl rfl rfl (by kernel_rfl) Try.func8 (by kernel_rfl)
    (of_decide_eq_true (by kernel_rfl)) (by unfold Func.isWrapper; first | (rw [if_pos (by decide +kernel)]; kernel_rfl) | (rw [if_neg (by decide +kernel)]; exact ⟨rfl, rfl⟩))
    (fun os started H enc _ => lifted os started H enc)
end Go.Proofs.Ytolgagacdiljlaa.progCuts
namespace Go.Proofs.Ytolgagacdiljlaa
/-- The statement. -/
theorem progCuts_holds : Rows.ProgCutsSaid := progCuts.over
#print axioms progCuts_holds
end Go.Proofs.Ytolgagacdiljlaa
