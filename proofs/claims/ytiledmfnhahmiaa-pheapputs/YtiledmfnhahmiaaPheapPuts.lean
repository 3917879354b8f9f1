/-
  For every size, every deeds and every id, deadline and number PheapPuts answers true: what is put and taken out again leaves all as it was; the first one is the first of the list. No condition.
-/
import Derived.Test.YtiledmfnhahmiaaRows
import Derived.Test.YtiledmfnhahmiaaH14
import Derived.WalkKit
import Derived.ProofKit
import Derived.OpenShut
import Derived.RowKit3
import Derived.Laws.Cover2
import Derived.Laws.IdiomArrays
import Derived.ChangeOld
import Derived.Below
import Derived.Carry
import Derived.Lib.SmallJoins
namespace Go.Proofs.Ytiledmfnhahmiaa.pheapPuts
open Go.ChangeShapes Go.WideShapes Go.ChangeAt Go.RowKit
set_option linter.unusedVariables false

theorem own : ownKnob Try.prog.godebug = none := by kernel_rfl
theorem laidOut : laidOutB Try.prog = true := by kernel_rfl
open Go.Lib
theorem out_ins {n : Nat} {L : List Item} (hg : Good n L) (x : Item) (hx : x.1 < n) (hno : ∀ y ∈ L, y.1 ≠ x.1) : out x.1 (ins x L) = L := by
  refine srt_uniq (srt_out (hg.ins hx hno).srt) hg.srt (fun y => ?_)
  rw [mem_out, mem_ins]
  constructor
  · rintro ⟨h | h, hne⟩
    · exact absurd (by rw [h]) hne
    · exact h
  · intro h
    exact ⟨.inr h, hno y h⟩
theorem box0 {w w' : World} {x : Dd} (h : Below (w.heap.size + 1) (w.alloc (.cells #[.int .i64 x.k, .int .i64 x.i, .int .u64 (x.d : Int), .int .u64 (x.s : Int)] 40)) w') : Below w.heap.size w w' := ((Below.refl _ _).alloc (Nat.le_refl _) _).trans (h.mono (by omega))
set_option maxHeartbeats 8000000 in
theorem way (m : Nat) (hm : m < 256) (a : Option Addr) (len cap : Nat) (D : Nat → Dd) (x : Dd) (w : World) (hlen : len < 9223372036854775808) (hd : Dds w a len D) :
    Calls Try.prog 9 #[.int .u8 m, .slice a len cap, .agg #[.int .i64 x.k, .int .i64 x.i, .int .u64 (x.d : Int), .int .u64 (x.s : Int)]] w fun e w' => e = .returned (.bool true) ∧ Below w.heap.size w w' := by
  have HP := veil (play_ok (w.alloc (.cells #[.int .i64 x.k, .int .i64 x.i, .int .u64 (x.d : Int), .int .u64 (x.s : Int)] 40)) m hm a len cap hlen D (hd.below ((Below.refl _ _).alloc (Nat.le_refl _) _)))
  have hsz : (w.alloc (.cells #[.int .i64 x.k, .int .i64 x.i, .int .u64 (x.d : Int), .int .u64 (x.s : Int)] 40)).heap.size = w.heap.size + 1 := by simp
  have HSZ := veil hsz
  have HW : Hid (∀ w1 w2, Below (w.heap.size + 1) (w.alloc (.cells #[.int .i64 x.k, .int .i64 x.i, .int .u64 (x.d : Int), .int .u64 (x.s : Int)] 40)) w1 → Below w1.heap.size w1 w2 → Below (w.heap.size + 1) (w.alloc (.cells #[.int .i64 x.k, .int .i64 x.i, .int .u64 (x.d : Int), .int .u64 (x.s : Int)] 40)) w2) := fun w1 w2 q1 q2 => q1.trans (q2.mono (Nat.le_trans (Nat.le_of_eq hsz.symm) q1.size))
  clear hd hsz
  go_enter Try.func9, Try.ntmps9
  go_wp2_with (first
    | (go_at_call 11; refine (HP.out).mono ?_; rintro e w1 ⟨b, g, rb, base, v, L, rfl, h1, h2, h3, h4, hB, hL⟩; rw [HSZ.out] at hL h1 h2; have HB := veil hB.q; have HL := veil hL; clear hB hL)
    | (go_at_call 12; refine (live_heap _).mono ?_; rintro e w2 ⟨rfl, hb2⟩; have HB2 := veil (HB.out.below hb2); have HL2 := veil (HL.out.trans (hb2.mono (Nat.le_trans (Nat.le_of_eq HSZ.out.symm) HL.out.size))); clear hb2)
    | (go_at_call 14; refine (hlist_ok HB2.out).mono ?_; rintro e w3 ⟨v3, rfl, hil, hb3⟩; have HI3 := veil hil; have HB3 := veil (HB2.out.below hb3); have HL3 := veil (HL2.out.trans (hb3.mono (Nat.le_trans (Nat.le_of_eq HSZ.out.symm) HL2.out.size))); have d3 := box_cells HL3.out; obtain ⟨d31, d32, d33⟩ := d3; have hbl := HB2.out.blocks; have hs3 := hb3.size; clear hb3 hil))
  have hG := HB3.out.good
  have hll : (idsL L).length ≤ 1024 := by rw [idsL_len]; exact Nat.le_trans hG.len HB3.out.nle
  have hcases : (∃ r : Int, (r = 2 ∨ r = 5) ∧ Calls Try.prog 23 #[.pointer (some ⟨b, 0, none⟩), .int .i64 x.i, .int .u64 (x.d : Int), .int .u64 (x.s : Int)] w3 fun e w' => e = .returned (.int .i64 r) ∧ w' = w3) ∨ (∃ k : Nat, x.i = k ∧ k < m % 16 + 1 ∧ ∀ it ∈ L, it.1 ≠ k) := by
    rcases ids_cases _ L hG x.i with hi | ⟨k, d0, s0, hk1, hk, hmem⟩ | ⟨k, hk1, hk, hno⟩
    · exact .inl ⟨2, .inl rfl, hinsert_range HB3.out x.i x.d x.s hi⟩
    · rw [hk1]; exact .inl ⟨5, .inr rfl, hinsert_known HB3.out k x.d x.s ⟨_, hmem, rfl⟩⟩
    · exact .inr ⟨k, hk1, hk, hno⟩
  clear HB HL HP
  rcases hcases with ⟨r, hr, hc⟩ | ⟨k, hk1, hk, hno⟩
  · have HC := veil hc
    clear hc hG
    rcases hr with rfl | rfl
    all_goals
      go_wp2_with (first
        | (go_at_call 23; refine (HC.out).mono ?_; rintro e w4 ⟨rfl, hw⟩; replace hw := hw.symm; subst hw)
        | (go_at_call 14; refine (hlist_ok HB3.out).mono ?_; rintro e w5 ⟨v5, rfl, hil, hb⟩; have HI5 := veil hil; have HI3' := veil (HI3.out.below hb); have HL5 := veil (HW.out _ _ HL3.out hb); clear hil hb)
        | (go_at_call 21; refine (same_yes _ _ _ _ _ (idsL L) hll HI3'.out HI5.out).mono ?_; rintro e w9 ⟨rfl, q, hw⟩; have HB9 := veil (box0 HL5.out); subst hw))
      go_ret
      exact ⟨rfl, below_drewN HB9.out _⟩
  · have hg1 : Good (m % 16 + 1) (ins (k, x.d, x.s) L) := hG.ins (x := (k, x.d, x.s)) hk hno
    have hout : out k (ins (k, x.d, x.s) L) = L := out_ins hG (k, x.d, x.s) hk hno
    have hmem : (k, x.d, x.s) ∈ ins (k, x.d, x.s) L := mem_ins.2 (.inl rfl)
    have hl1 : (ins (k, x.d, x.s) L).length = L.length + 1 := len_ins
    have HI := veil (hinsert_ok HB3.out k x.d x.s hk hno)
    rw [← hk1] at HI
    have HRes : Hid (∀ W, IsH W b g (m % 16 + 1) L → Calls Try.prog 23 #[.pointer (some ⟨b, 0, none⟩), .int .i64 x.i, .int .u64 0, .int .u64 0] W fun e w' => e = .returned (.int .i64 0) ∧ IsH w' b g (m % 16 + 1) (ins (k, 0, 0) L) ∧ Only b g W w') := fun W hh => by rw [hk1]; exact hinsert_ok hh k 0 0 hk hno
    have HCh : Hid (∀ W, IsH W b g (m % 16 + 1) (ins (k, 0, 0) L) → Calls Try.prog 20 #[.pointer (some ⟨b, 0, none⟩), .int .i64 x.i, .int .u64 18446744073709551615, .int .u64 18446744073709551615] W fun e w' => e = .returned (.int .i64 0) ∧ IsH w' b g (m % 16 + 1) (ins (k, 18446744073709551615, 18446744073709551615) (out k (ins (k, 0, 0) L))) ∧ Only b g W w') := fun W hh => by rw [hk1]; exact hchange_ok hh k 18446744073709551615 18446744073709551615 0 0 (mem_ins.2 (.inl rfl))
    have HDel : Hid (∀ W, IsH W b g (m % 16 + 1) (ins (k, x.d, x.s) L) → Calls Try.prog 22 #[.pointer (some ⟨b, 0, none⟩), .int .i64 x.i] W fun e w' => e = .returned (.int .i64 0) ∧ IsH w' b g (m % 16 + 1) L ∧ Only b g W w') := fun W hh => by
      have := hdelete_ok hh k x.d x.s hmem
      rw [hout] at this
      rw [hk1]; exact this
    obtain ⟨y, rest, hL1⟩ : ∃ y rest, ins (k, x.d, x.s) L = y :: rest := by
      cases hh : ins (k, x.d, x.s) L with
      | nil => rw [hh] at hl1; simp at hl1
      | cons y rest => exact ⟨y, rest, rfl⟩
    rw [hL1] at HI HDel hl1 hg1
    have hbw : b < w2.heap.size := hbl.1
    have hgw : g < w2.heap.size := hbl.2.1
    obtain ⟨a3, c3, hv3⟩ := HI3.out.slice
    subst hv3
    have hlw : (idsL L).length = L.length := idsL_len L
    rw [hlw] at HI3
    have hyl : (idsL (y :: rest)).length = L.length + 1 := by rw [idsL_len]; exact hl1
    clear hG hno hmem hout hL1 hk1 hg1
    rw [hlw]
    generalize L.length = ll at *
    have HYL := veil hyl
    have HLL := veil hll
    have HLW := veil hlw
    have hll2 : ll ≤ 1024 := by omega
    clear hyl hl1 hlw hll hk
    generalize hLY : y :: rest = LY at *
    have HY0 : Hid (∀ (W : World) (base : Nat) (v : Value), IL W base v (idsL LY) → ∃ ga ca, v = .slice (some ⟨ga, 0, none⟩) (ll + 1) ca ∧ W.cell? ⟨ga, 0, none⟩ = some (.int .i64 (y.1 : Int))) := by
      intro W base v hil
      obtain ⟨ga, ca, rfl, _, _, ha3⟩ := hil.cells (by rw [← hLY]; simp [idsL])
      rw [HYL.out]
      refine ⟨ga, ca, rfl, ?_⟩
      rw [ha3 0 (by rw [HYL.out]; omega), ← hLY]
      rfl
    have HM0 : Hid (∀ W, IsH W b g (m % 16 + 1) LY → Calls Try.prog 18 #[.pointer (some ⟨b, 0, none⟩)] W fun e w' => e = .returned (.tuple #[.int .i64 (y.1 : Int), .bool true]) ∧ ∃ q, w' = W.drewN q) := by
      intro W hh
      rw [← hLY] at hh
      exact hmin_ok hh
    clear hLY
    generalize (y.1 : Int) = y1 at *
    generalize m % 16 + 1 = nn at *
    have HIsz : w.heap.size + 1 ≤ (w.alloc (.cells #[.int .i64 x.k, .int .i64 x.i, .int .u64 (x.d : Int), .int .u64 (x.s : Int)] 40)).heap.size := Nat.le_of_eq HSZ.out.symm
    have HSS := veil HIsz
    clear HIsz
    go_wp2_with (first
      | (go_at_call 23; refine (HRes.out _ HQ9.out).mono ?_; rintro e w10 ⟨rfl, hq, ho⟩; have HQ10 := veil hq; have HL10 := veil (below_fr HL9.out HSS.out (Fr.of_only ho) h1 h2); obtain ⟨d101, d102, d103⟩ := box_cells HL10.out; clear hq ho)
      | (go_at_call 14; refine (hlist_ok HQ7.out).mono ?_; rintro e w8 ⟨v8, rfl, hil, hb⟩; have HK8 := veil hil; have HQ8 := veil (HQ7.out.below hb); have HJ8 := veil (HJ7.out.below hb); have HL8 := veil (HW.out _ _ HL7.out hb); clear hil hb)
      | (go_at_call 18; refine (HM0.out _ HQ5.out).mono ?_; rintro e w6 ⟨rfl, q6, hw⟩; have HQ6 := veil (HQ5.out.drewN q6); have HJ6 := veil (HJ5.out.below (below_drewN (Below.refl _ _) q6)); have HL6 := veil (below_drewN HL5.out q6); subst hw; obtain ⟨d61, d62, d63⟩ := box_cells HL6.out)
      | (go_at_call 22; refine (HDel.out _ HQ6.out).mono ?_; rintro e w7 ⟨rfl, hq, ho⟩; have HQ7 := veil hq; have HJ7 := veil (HJ6.out.apart (Fr.of_only ho) hbw hgw); have HL7 := veil (below_fr HL6.out HSS.out (Fr.of_only ho) h1 h2); clear hq ho)
      | (go_at_call 14; refine (hlist_ok HQ4.out).mono ?_; rintro e w5 ⟨v5, rfl, hil, hb⟩; obtain ⟨ga, ca, rfl, y5⟩ := HY0.out _ _ _ hil; have HQ5 := veil (HQ4.out.below hb); have HJ5 := veil (HJ4.out.below hb); have HL5 := veil (HW.out _ _ HL4.out hb); clear hil hb)
      | (go_at_call 21; refine (same_yes _ _ _ _ _ (idsL L) HLL.out HJ8.out HK8.out).mono ?_; rintro e w9 ⟨rfl, q9, hw⟩; have HQ9 := veil (HQ8.out.drewN q9); have HL9 := veil (below_drewN HL8.out q9); subst hw; obtain ⟨d91, d92, d93⟩ := box_cells HL9.out)
      | (go_at_call 23; refine (HI.out).mono ?_; rintro e w4 ⟨rfl, hq, ho⟩; have HQ4 := veil hq; have HJ4 := veil (HI3.out.apart (Fr.of_only ho) hbw hgw); have HL4 := veil (below_fr HL3.out HSS.out (Fr.of_only ho) h1 h2); have hbl4 := hq.blocks; clear hq ho)
      | (go_at_call 20; refine (HCh.out _ HQ10.out).mono ?_; rintro e w11 ⟨rfl, hq, ho⟩; have HL11 := veil (below_fr HL10.out HSS.out (Fr.of_only ho) h1 h2); clear hq ho))
    go_ret
    exact ⟨by simp, box0 HL11.out⟩

set_option maxHeartbeats 1000000 in
theorem walk (a0 : Int) (a1 : Option Addr) (len1 cap1 : Nat) (D1 : Nat → Dd) (x2 : Dd) (w : World) (w0 : (Lit.int .u8 a0).wf = true) (n1 : len1 < 9223372036854775808) (c1 : len1 ≤ cap1) (m1 : cap1 < 9223372036854775808) (w1 : Dds w a1 len1 D1) (w2 : x2.ok) :
    Calls Try.prog 9 #[.int .u8 a0, .slice a1 len1 cap1, .agg #[.int .i64 x2.k, .int .i64 x2.i, .int .u64 (x2.d : Int), .int .u64 (x2.s : Int)]] w fun e w' => e = .returned (.bool true) ∧ Below w.heap.size w w' := by
  obtain ⟨l0, m0⟩ := bounds_u8 w0
  obtain ⟨M, rfl⟩ := Int.eq_ofNat_of_zero_le l0
  exact way M (by omega) a1 len1 cap1 D1 x2 w n1 w1

set_option maxHeartbeats 1000000 in
set_option maxRecDepth 100000 in
theorem lifted (os : Os) (started : os.Started) (H : Type) (enc : TypeId × Value → H) :
    ReturnsInHanded {} Try.checked os 9 .any (Rows.pheapPutsSpec.pre6 enc Try.prog Try.f9 Rows.pheapPutsRow.domain false) (Rows.pheapPutsSpec.post enc Try.prog Try.f9 false true false false) := by
  refine returnsInHanded_of_change (C := Try.checked) own started (by kernel_rfl) Try.func9
    (ChangeSpec.witness6 (enc := enc) (C := Try.checked) false ⟨#[], #[.int .u8 0, .slice none 0 0, .agg #[.int .i64 0, .int .i64 0, .int .u64 0, .int .u64 0]], []⟩ 8 (by kernel_rfl) (by kernel_rfl) (by kernel_rfl) (by kernel_rfl)) ?_
  intro W base args ds gs before hval0 hW hcnd _
  have hval : ∀ (j : Nat) t v, Try.f9.params[j]? = some t → args[j]? = some v → Value.okWide Try.prog W .any base t v := hval0
  have hW' := hW
  obtain ⟨p, q, hA0, hV, rfl, hfz, hnd⟩ := hW
  have hA : DataW.TrodAll enc Try.prog W 0 (fun _ => true) true Try.f9.params.toList args.toList ds p := hA0
  rw [Try.params9] at hA hval
  obtain ⟨v0, vs0, d0, ds0, p0', q0', hargs, rfl, rfl, h0, r0⟩ := trodAll_cons hA
  obtain ⟨v1, vs1, d1, ds1, p1', q1', rfl, rfl, rfl, h1, r1⟩ := trodAll_cons r0
  obtain ⟨v2, vs2, d2, ds2, p2', q2', rfl, rfl, rfl, h2, r2⟩ := trodAll_cons r1
  obtain ⟨rfl, rfl, rfl⟩ := trodAll_nil r2
  obtain rfl : args = #[v0, v1, v2] := by cases args; simp_all
  obtain ⟨rfl, rfl⟩ := trodVars_none hV
  have kk0 := h0
  have lt0 : ∀ x ∈ p0', x.block < W.heap.size := by obtain ⟨m, hm⟩ := kk0; exact DataW.trod_lt m _ _ _ hm
  obtain ⟨a0, rfl, rfl, rfl, w0⟩ := open_int Try.underlying5 (hval 0 5 v0 rfl rfl) h0
  have kk1 := h1
  have lt1 : ∀ x ∈ p1', x.block < W.heap.size := by obtain ⟨m, hm⟩ := kk1; exact DataW.trod_lt m _ _ _ hm
  obtain ⟨a1, len1, cap1, rfl⟩ := okWide_slice Try.underlying22 (hval 1 22 v1 rfl rfl)
  obtain ⟨n1, c1, m1, D1, w1⟩ : len1 < 9223372036854775808 ∧ len1 ≤ cap1 ∧ cap1 < 9223372036854775808 ∧ ∃ D, Dds W a1 len1 D := by
    obtain ⟨fuel, hf⟩ := h1
    exact open_deeds hf
  have kk2 := h2
  have lt2 : ∀ x ∈ p2', x.block < W.heap.size := by obtain ⟨m, hm⟩ := kk2; exact DataW.trod_lt m _ _ _ hm
  obtain ⟨x2, rfl, w2⟩ := open_deed (hval 2 40 v2 rfl rfl) h2
  clear hA0 hval0
  refine (walk a0 a1 len1 cap1 D1 x2 W w0 n1 c1 m1 w1 w2).mono fun e W' ⟨he, bel⟩ => ?_
  subst he
  exact ⟨_, rfl, _, _, _, [], _, [], hW', trodAll_mk1 (shut_bool Try.underlying4 _), (trodAll_cons_mk (Below.trod laidOut (by kernel_rfl) (of_decide_eq_true (by kernel_rfl)) kk0 bel lt0) (trodAll_cons_mk (Below.trod laidOut (by kernel_rfl) (of_decide_eq_true (by kernel_rfl)) kk1 bel lt1) (trodAll_cons_mk (Below.trod laidOut (by kernel_rfl) (of_decide_eq_true (by kernel_rfl)) kk2 bel lt2) trodAll_mk0))), rfl, bel.frame _, fun h => by cases h⟩

theorem over : Rows.pheapPutsRow.holds Try.pinned (OpenSpec.ofChange Rows.pheapPutsSpec) :=
  OpenClaim.holds_of_wide 9 Try.f9 rfl rfl rfl rfl rfl rfl rfl ⟨rfl, rfl, rfl, rfl, rfl⟩ rfl rfl rfl rfl rfl (by kernel_rfl) Try.func9 (by kernel_rfl)
    (of_decide_eq_true (by kernel_rfl)) (by unfold Func.isWrapper; first | (rw [if_pos (by decide +kernel)]; kernel_rfl) | (rw [if_neg (by decide +kernel)]; exact ⟨rfl, rfl⟩))
    (fun os started H enc _ => lifted os started H enc)
end Go.Proofs.Ytiledmfnhahmiaa.pheapPuts
namespace Go.Proofs.Ytiledmfnhahmiaa
/-- The statement. -/
theorem pheapPuts_holds : Rows.PheapPutsSaid := pheapPuts.over
#print axioms pheapPuts_holds
end Go.Proofs.Ytiledmfnhahmiaa
