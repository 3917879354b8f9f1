/-
  For every deeds, and a time to advance to, WheelOnce answers true: what is due is answered once, in the order of its times, and no other. No condition.
-/
import Derived.Test.YtjmbadadelelfaaRows
import Derived.Test.YtjmbadadelelfaaWd3
import Derived.WalkKit
import Derived.ProofKit
import Derived.OpenShut
import Derived.RowKit3
import Derived.Laws.Cover2
import Derived.Laws.IdiomArrays
import Derived.ChangeOld
import Derived.Below
import Derived.Carry
import Derived.Lib.SmallJoins
namespace Go.Proofs.Ytjmbadadelelfaa.wheelOnce
open Go.ChangeShapes Go.WideShapes Go.ChangeAt Go.RowKit
set_option linter.unusedVariables false

theorem own : ownKnob Try.prog.godebug = none := by kernel_rfl
theorem laidOut : laidOutB Try.prog = true := by kernel_rfl
open Go.Lib
attribute [local go_sem ↓] Go.wp_at_zero Go.wp_at_succ
set_option maxRecDepth 100000 in
set_option maxHeartbeats 8000000 in
theorem way (m : Nat) (hm : m < 256) (a : Option Addr) (len cap : Nat) (D : Nat → Dd) (to : Nat) (hto : to < 18446744073709551616) (w : World) (hlen : len < 9223372036854775808) (hd : Dds w a len D) :
    Calls Try.prog 4 #[.int .u8 m, .slice a len cap, .int .u64 (to : Int)] w fun e w' => e = .returned (.bool true) ∧ Below w.heap.size w w' := by
  have HP := veil (play_ok w m hm a len cap hlen D hd)
  have hn12 : m % 12 + 1 ≤ 12 := by omega
  clear hd
  generalize m % 12 + 1 = n at *
  go_enter Try.func4, Try.ntmps4
  go_wp2_with (first
    | (go_at_call 11; refine (HP.out).mono ?_; rintro e w1 ⟨base, b, g, mb, rb, nw, S, rfl, hB, hL⟩; have HB1 := veil hB.sol; have HL1 := veil hL; clear hB hL)
    | (go_at_call 12; refine (live_ok _).mono ?_; rintro e w2 ⟨rfl, hb2⟩; have HB2 := veil (HB1.out.below hb2); have HL2 := veil (HL1.out.trans (hb2.mono HL1.out.size)); clear hb2)
    | (go_at_call 14; refine (Two.fork HB2.out).mono ?_; rintro e w3 ⟨b', g', mb', rfl, hq, hb⟩; have HQ := veil hq; have HL3 := veil (HL2.out.trans (hb.mono HL2.out.size)); clear hq hb)
    | (go_at_call 15; refine (len_ok HQ.out.p.p).mono ?_; rintro e wx ⟨rfl, hw⟩; replace hw := hw.symm; subst hw)
    | (go_at_call 16; refine (HQ.out.advP hn12 to hto).mono ?_; rintro e w4 ⟨⟨v, rfl, ho⟩, ht, _, hb⟩; obtain ⟨a4, c4, rfl, hi⟩ := Ids.of ho; have HI4 := veil hi; have HT4 := veil ht; have HL4 := veil (HL3.out.trans hb); clear ht hb ho hi))
  have HFA := veil HQ.out.q.p.facts
  have HAT : Hid (∀ x ∈ due (max to nw) S, atT n S (x.i : Int) = x.t ∧ atB n S (x.i : Int) = true ∧ atB n (late (max to nw) S) (x.i : Int) = false ∧ x.t ≤ max to nw) := fun x hx => due_at HQ.out.q.p _ hx
  have HSD : Hid (Srt (due (max to nw) S)) := HFA.out.1.filter _
  obtain ⟨hll, hll2⟩ := late_len HFA.out.1 (max to nw)
  have HLL := veil hll
  have hSn : S.length ≤ n := HFA.out.2.2.2.2.2.1
  have hT : max to nw < 18446744073709551616 := by have := HFA.out.2.2.2.2.1; omega
  have hTT : max to (max to nw) = max to nw := by omega
  have HNX := veil (late_next (max to nw) S)
  have HDL := veil (due_late_nil (max to nw) S)
  clear HB1 HL1 HP HB2 HL2 hll
  generalize max to nw = T at *
  generalize hDu : due T S = L at *
  generalize hLa : late T S = M at *
  clear hDu hLa HQ HL3 HFA
  generalize w2.heap.size = mid at *
  generalize w3.heap.size = base4 at *
  go_loopw [13, 14] (fun lv iv wr => ∃ (i l : Nat), i ≤ L.length ∧ iv = .int .i64 (i : Int) ∧ lv = .int .u64 (l : Int) ∧ Asc L i l ∧ Two wr w.heap.size mid b g mb n T M b' g' mb' nw S ∧ Ids wr base4 a4 L ∧ Below w.heap.size w wr) (fun _ iv _ => L.length - (intOf iv).toNat)
  case atStart => exact ⟨0, 0, by omega, rfl, rfl, fun _ _ _ => Nat.zero_le _, HT4.out, HI4.out, HL4.out⟩
  case round =>
    obtain ⟨i, l, hi, rfl, rfl, has, htw, hid, hbel⟩ := hrel
    clear HT4 HI4 HL4
    have HS := veil htw
    have HB := veil hbel
    have HID := veil hid
    by_cases hil : i < L.length
    · have hil' : (i : Int) < (L.length : Int) := by omega
      rcases hid with h0 | ⟨gi, rfl, hg1, hg2, hc⟩
      · omega
      · have hxm := getD_mem hil
        obtain ⟨x1, x2, x3, x4⟩ := HAT.out _ hxm
        have hca := hc i hil
        have hle := has i (Nat.le_refl _) hil
        have hnx := Asc.next HSD.out hil
        generalize L.getD i ⟨0, 0⟩ = x at *
        have A1 := at_ok htw.q.p (x.i : Int)
        rw [x1, x2] at A1
        have HA1 := veil A1
        have HA2 : Hid (∀ W, Two W w.heap.size mid b g mb n T M b' g' mb' nw S → Calls Try.prog 17 #[.pointer (some ⟨b, 0, none⟩), .int .i64 (x.i : Int)] W fun e w' => e = .returned (.tuple #[.int .u64 (atT n M (x.i : Int) : Int), .bool false]) ∧ Below W.heap.size W w') := fun W h => by have := at_ok h.p.p (x.i : Int); rw [x3] at this; exact this
        have HN := veil hnx
        have hle' : ¬ (x.t : Int) < (l : Int) := by omega
        have x4' : ¬ (T : Int) < (x.t : Int) := by omega
        have HCC : Hid (∀ W, Below wr.heap.size wr W → W.cell? ⟨gi, i, none⟩ = some (.int .i64 (x.i : Int))) := fun W h => (h.cell (p := ⟨gi, i, none⟩) hg2).trans hca
        generalize atT n M (x.i : Int) = at2 at *
        clear hc hxm x1 x2 x3 A1 hnx htw hbel has hle x4
        go_wp2_with (first
          | (go_at_call 17; (have hh := HS4.out; clear hh); refine (HA2.out _ HS4.out).mono ?_; rintro e w5 ⟨rfl, hb⟩; have HS5 := veil (HS4.out.below hb); have HB5 := veil (HB4.out.trans (hb.mono HB4.out.size)); have HI5 := veil (HI4.out.below hb); clear hb)
          | (go_at_call 17; refine (HA1.out).mono ?_; rintro e w4 ⟨rfl, hb⟩; have HS4 := veil (HS.out.below hb); have HB4 := veil (HB.out.trans (hb.mono HB.out.size)); have HI4 := veil (HID.out.below hb); have hc4 := HCC.out _ hb; clear hb)
          | (go_at_call 18; refine (now_ok HS5.out.p.p).mono ?_; rintro e wx ⟨rfl, hw⟩; replace hw := hw.symm; subst hw))
        go_roundw
        case rel => exact ⟨i + 1, x.t, by omega, by go_num, rfl, HN.out, HS5.out, HI5.out, HB5.out⟩
        case measure => simp [intOf]; omega
    · have hil' : ¬ (i : Int) < (L.length : Int) := by omega
      have HNN := veil (next_ok htw.p.p)
      have HLN : Hid (∀ W, Two W w.heap.size mid b g mb n T M b' g' mb' nw S → Calls Try.prog 15 #[.pointer (some ⟨b, 0, none⟩)] W fun e w' => e = .returned (.int .i64 ((S.length : Int) - (L.length : Int))) ∧ w' = W) := fun W h => by have := len_ok h.p.p; rw [HLL.out, Int.ofNat_sub hll2] at this; exact this
      have HAD : Hid (∀ W, Two W w.heap.size mid b g mb n T M b' g' mb' nw S → Calls Try.prog 16 #[.pointer (some ⟨b, 0, none⟩), .int .u64 (to : Int)] W fun e w' => (∃ a c, e = .returned (.slice a 0 c)) ∧ Below w.heap.size W w') := fun W h => by
        have := h.advP hn12 to hto
        rw [hTT, HDL.out] at this
        exact this.mono (fun _ _ ⟨⟨v, e, ho⟩, _, _, hb⟩ => by obtain ⟨a, c, rfl⟩ := own_slice ho; exact ⟨⟨a, c, e⟩, hb⟩)
      clear has htw hid hbel HLL
      rcases HNX.out with hx | ⟨hx, hx2⟩
      · rw [hx] at HNN
        generalize nxT M = nx at *
        clear hx HNX
        go_wp2_with (first
          | (go_at_call 19; refine (HNN.out).mono ?_; rintro e w7 ⟨rfl, hb⟩; have HS7 := veil (HS.out.below hb); have HB7 := veil (HB.out.trans (hb.mono HB.out.size)); clear hb)
          | (go_at_call 15; refine (HLN.out _ HS7.out).mono ?_; rintro e wx ⟨rfl, hw⟩; replace hw := hw.symm; subst hw)
          | (go_at_call 18; refine (now_ok HS7.out.p.p).mono ?_; rintro e wx ⟨rfl, hw⟩; replace hw := hw.symm; subst hw)
          | (go_at_call 16; refine (HAD.out _ HS7.out).mono ?_; rintro e w8 ⟨⟨a8, c8, rfl⟩, hb⟩; have HB8 := veil (HB7.out.trans hb); clear hb))
        go_ret
        exact ⟨rfl, HB8.out⟩
      · rw [hx] at HNN
        generalize nxT M = nx at *
        have hx3 : (T : Int) < (nx : Int) := by omega
        clear hx HNX
        go_wp2_with (first
          | (go_at_call 19; refine (HNN.out).mono ?_; rintro e w7 ⟨rfl, hb⟩; have HS7 := veil (HS.out.below hb); have HB7 := veil (HB.out.trans (hb.mono HB.out.size)); clear hb)
          | (go_at_call 15; refine (HLN.out _ HS7.out).mono ?_; rintro e wx ⟨rfl, hw⟩; replace hw := hw.symm; subst hw)
          | (go_at_call 18; refine (now_ok HS7.out.p.p).mono ?_; rintro e wx ⟨rfl, hw⟩; replace hw := hw.symm; subst hw)
          | (go_at_call 16; refine (HAD.out _ HS7.out).mono ?_; rintro e w8 ⟨⟨a8, c8, rfl⟩, hb⟩; have HB8 := veil (HB7.out.trans hb); clear hb))
        go_ret
        exact ⟨rfl, HB8.out⟩

set_option maxHeartbeats 1000000 in
theorem walk (a0 : Int) (a1 : Option Addr) (len1 cap1 : Nat) (D1 : Nat → Dd) (a2 : Int) (w : World) (w0 : (Lit.int .u8 a0).wf = true) (n1 : len1 < 9223372036854775808) (c1 : len1 ≤ cap1) (m1 : cap1 < 9223372036854775808) (w1 : Dds w a1 len1 D1) (w2 : (Lit.int .u64 a2).wf = true) :
    Calls Try.prog 4 #[.int .u8 a0, .slice a1 len1 cap1, .int .u64 a2] w fun e w' => e = .returned (.bool true) ∧ Below w.heap.size w w' := by
  obtain ⟨l0, m0⟩ := bounds_u8 w0
  obtain ⟨M, rfl⟩ := Int.eq_ofNat_of_zero_le l0
  obtain ⟨l2, m2⟩ := bounds_u64 w2
  obtain ⟨T, rfl⟩ := Int.eq_ofNat_of_zero_le l2
  exact way M (by omega) a1 len1 cap1 D1 T (by omega) w n1 w1

set_option maxHeartbeats 1000000 in
set_option maxRecDepth 100000 in
theorem lifted (os : Os) (started : os.Started) (H : Type) (enc : TypeId × Value → H) :
    ReturnsInHanded {} Try.checked os 4 .any (Rows.wheelOnceSpec.pre6 enc Try.prog Try.f4 Rows.wheelOnceRow.domain false) (Rows.wheelOnceSpec.post enc Try.prog Try.f4 false true false false) := by
  refine returnsInHanded_of_change (C := Try.checked) own started (by kernel_rfl) Try.func4
    (ChangeSpec.witness6 (enc := enc) (C := Try.checked) false ⟨#[], #[.int .u8 0, .slice none 0 0, .int .u64 0], []⟩ 8 (by kernel_rfl) (by kernel_rfl) (by kernel_rfl) (by kernel_rfl)) ?_
  intro W base args ds gs before hval0 hW hcnd _
  have hval : ∀ (j : Nat) t v, Try.f4.params[j]? = some t → args[j]? = some v → Value.okWide Try.prog W .any base t v := hval0
  have hW' := hW
  obtain ⟨p, q, hA0, hV, rfl, hfz, hnd⟩ := hW
  have hA : DataW.TrodAll enc Try.prog W 0 (fun _ => true) true Try.f4.params.toList args.toList ds p := hA0
  rw [Try.params4] at hA hval
  obtain ⟨v0, vs0, d0, ds0, p0', q0', hargs, rfl, rfl, h0, r0⟩ := trodAll_cons hA
  obtain ⟨v1, vs1, d1, ds1, p1', q1', rfl, rfl, rfl, h1, r1⟩ := trodAll_cons r0
  obtain ⟨v2, vs2, d2, ds2, p2', q2', rfl, rfl, rfl, h2, r2⟩ := trodAll_cons r1
  obtain ⟨rfl, rfl, rfl⟩ := trodAll_nil r2
  obtain rfl : args = #[v0, v1, v2] := by cases args; simp_all
  obtain ⟨rfl, rfl⟩ := trodVars_none hV
  have kk0 := h0
  have lt0 : ∀ x ∈ p0', x.block < W.heap.size := by obtain ⟨m, hm⟩ := kk0; exact DataW.trod_lt m _ _ _ hm
  obtain ⟨a0, rfl, rfl, rfl, w0⟩ := open_int Try.underlying5 (hval 0 5 v0 rfl rfl) h0
  have kk1 := h1
  have lt1 : ∀ x ∈ p1', x.block < W.heap.size := by obtain ⟨m, hm⟩ := kk1; exact DataW.trod_lt m _ _ _ hm
  obtain ⟨a1, len1, cap1, rfl⟩ := okWide_slice Try.underlying22 (hval 1 22 v1 rfl rfl)
  obtain ⟨n1, c1, m1, D1, w1⟩ : len1 < 9223372036854775808 ∧ len1 ≤ cap1 ∧ cap1 < 9223372036854775808 ∧ ∃ D, Dds W a1 len1 D := by
    obtain ⟨fuel, hf⟩ := h1
    exact open_deeds hf
  have kk2 := h2
  have lt2 : ∀ x ∈ p2', x.block < W.heap.size := by obtain ⟨m, hm⟩ := kk2; exact DataW.trod_lt m _ _ _ hm
  obtain ⟨a2, rfl, rfl, rfl, w2⟩ := open_int Try.underlying30 (hval 2 30 v2 rfl rfl) h2
  clear hA0 hval0
  refine (walk a0 a1 len1 cap1 D1 a2 W w0 n1 c1 m1 w1 w2).mono fun e W' ⟨he, bel⟩ => ?_
  subst he
  exact ⟨_, rfl, _, _, _, [], _, [], hW', trodAll_mk1 (shut_bool Try.underlying4 _), (trodAll_cons_mk (Below.trod laidOut (by kernel_rfl) (of_decide_eq_true (by kernel_rfl)) kk0 bel lt0) (trodAll_cons_mk (Below.trod laidOut (by kernel_rfl) (of_decide_eq_true (by kernel_rfl)) kk1 bel lt1) (trodAll_cons_mk (Below.trod laidOut (by kernel_rfl) (of_decide_eq_true (by kernel_rfl)) kk2 bel lt2) trodAll_mk0))), rfl, bel.frame _, fun h => by cases h⟩

theorem over : Rows.wheelOnceRow.holds Try.pinned (OpenSpec.ofChange Rows.wheelOnceSpec) :=
  OpenClaim.holds_of_wide 4 Try.f4 rfl rfl rfl rfl rfl rfl rfl ⟨rfl, rfl, rfl, rfl, rfl⟩ rfl rfl rfl rfl rfl (by kernel_rfl) Try.func4 (by kernel_rfl)
    (of_decide_eq_true (by kernel_rfl)) (by unfold Func.isWrapper; first | (rw [if_pos (by decide +kernel)]; kernel_rfl) | (rw [if_neg (by decide +kernel)]; exact ⟨rfl, rfl⟩))
    (fun os started H enc _ => lifted os started H enc)
end Go.Proofs.Ytjmbadadelelfaa.wheelOnce
namespace Go.Proofs.Ytjmbadadelelfaa
/-- The statement. -/
theorem wheelOnce_holds : Rows.WheelOnceSaid := wheelOnce.over
#print axioms wheelOnce_holds
end Go.Proofs.Ytjmbadadelelfaa
