/- TopChain's walk. -/
import Derived.Test.YtbhkgbhgofefjaaR27
import Derived.Test.YtbhkgbhgofefjaaI35
namespace Go.Proofs.Ytbhkgbhgofefjaa
open Go.RowKit Go.Deep Go.ChangeShapes Go.WideShapes Go.ChangeAt
set_option linter.unusedVariables false
theorem u8_of {z : Int} (h : (Lit.int .u8 z).wf = true) : ∃ n : Nat, z = n ∧ n < 256 := by
  simp [Lit.wf, IntKind.min, IntKind.max, IntKind.bits, IntKind.signed] at h
  exact ⟨z.toNat, by omega, by omega⟩
section
variable {H : Type} {enc : TypeId × Value → H} {w : World} {base : Nat} {spare : Nat → Bool} {held : Bool}
theorem cellsU8b : Try.prog.cellsOf 5 = 1 := by kernel_rfl
theorem open_u8s {fuel : Nat} {a : Option Addr} {len cap : Nat} {x : DataW H × List MemPlace}
    (h : DataW.trod enc Try.prog w base spare held fuel 58 (Value.slice a len cap).cells.toList = some x) : len < 9223372036854775808 ∧ len ≤ cap ∧ cap < 9223372036854775808 ∧ ∃ D, U8s w a len D := by
  rcases open_slice Try.underlying58 h with ⟨hcs, _⟩ | ⟨a', len', cap', m, n, D, Pl, hcs, hbb, hl, hm, hmm, hx, hel⟩
  · simp [Value.cells] at hcs
    obtain ⟨rfl, rfl, rfl⟩ := hcs
    exact ⟨by omega, by omega, by omega, fun _ => 0, .inl rfl⟩
  · simp [Value.cells] at hcs
    obtain ⟨rfl, rfl, rfl⟩ := hcs
    have hlm : len ≤ m := by rw [hmm]; split <;> omega
    refine ⟨by unfold maxLen at hm; omega, hl, by unfold maxLen at hm; omega, ?_⟩
    have hone : ∀ i, i < len → ∃ r : Nat, r < 256 ∧ w.cell? (a'.add (i * 1)) = some (.int .u8 (r : Int)) := by
      intro i hi'
      obtain ⟨cs', h1, h2⟩ := hel i (by omega)
      rw [cellsU8b] at h1
      obtain ⟨_, hlen, hc⟩ := World.cells?_some h1
      match cs', hlen with
      | [c0], _ =>
        obtain ⟨z0, e0, _, w0⟩ := DataW.trod_int Try.underlying5 h2
        simp at e0
        subst e0
        obtain ⟨n0, rfl, q0⟩ := u8_of w0
        have a0 := hc 0 (by omega)
        have az : ∀ x : Addr, x.add 0 = x := fun x => by unfold Addr.add; split <;> simp_all
        rw [az] at a0
        exact ⟨n0, q0, a0⟩
    obtain ⟨f, hf⟩ := choose_lt' hone
    refine ⟨f, ?_⟩
    by_cases h0 : len = 0
    · exact .inl h0
    · right
      obtain ⟨b, off, spot⟩ := a'
      have hspot : spot = none := by
        have := World.cell?_spot (hf 0 (by omega)).2
        simpa [Addr.add] using this
      subst hspot
      have hlt : b < w.heap.size := by
        have := World.block_lt_of_cell? w _ (hf 0 (by omega)).2
        simpa [Addr.add] using this
      refine ⟨b, off, rfl, hlt, fun i hi' => ?_⟩
      obtain ⟨q0, q1⟩ := hf i hi'
      simp only [Go.WideShapes.add_plain, Nat.mul_one] at q1
      exact ⟨q0, q1⟩
end
@[go_sem] theorem field_l (e : Bool) (d l : Int) (w : World) : (Instr.field 36 (.agg #[.bool e, .int .u64 d, .int .u8 l]) 2).run Try.prog w = .ok (.int .u8 l) w := by kernel_rfl
theorem ring7 {D : Nat → Nat} : lockR ⟨TT D (7 + 1) 7, LL (7 + 1) 7⟩ 7 0 = ((false, 8), ⟨TT D (7 + 1) 7, LL (7 + 1) 7⟩) := ch_ring (i := 7) (by decide) (by decide)
theorem keyA7 {D : Nat → Nat} (h : Acyc (LL (7 + 1) 7)) : keyA (TT D (7 + 1) 7) (LL (7 + 1) 7) 7 = fixK (mx D (7 + 1)) := ch_keyA (i := 7) (by decide) h
theorem unl7 {D : Nat → Nat} : unlR ⟨TT D (7 + 1) 7, LL (7 + 1) 7⟩ 7 7 = ((6, 0), chM D 7) := ch_unl (i := 7) (by decide) (by decide)
theorem last7 {D : Nat → Nat} (h : Acyc (chM D 7).L) : keyA (chM D 7).T (chM D 7).L 7 = fixK (D 7) := ch_last (i := 7) (by decide) (by decide) h
theorem key_new (h : Acyc (newM 8 8).L) : keyA (newM 8 8).T (newM 8 8).L 0 = fixK 0 := by
  unfold keyA
  rw [if_pos (by decide)]
  show keyOf _ _ 0 = _
  rw [keyOf_eq h]
  rfl
set_option maxRecDepth 100000 in
set_option maxHeartbeats 4000000 in
theorem TChain0 (a : Option Addr) (len cap : Nat) (D : Nat → Nat) (hlen : len < 9223372036854775808) (w : World) (hd : U8s w a len D) (hh : len < 2) :
    Calls Try.prog 13 #[.slice a len cap] w fun e w' => e = .returned (.bool true) ∧ Below w.heap.size w w' := by
  have HN : Hid (Calls Try.prog 31 #[.int .i64 8, .int .i64 8] w fun e w' => ∃ s O, e = .returned (.pointer (some ⟨s, 0, none⟩)) ∧ PG w' w.heap.size O s (newM 8 8) ∧ Below w.heap.size w w') := pnew_ok 8 8 w (by decide) (by decide) (by decide)
  have HD := veil hd
  have HFx := veil (fun W l => fixed_ok W l)
  clear hd
  have h2' : (len : Int) < 2 := by omega
  have h8' : ¬ (8 : Int) < (len : Int) := by omega
  have HK0 := veil (fun W b O s (h : PG W b O s (newM 8 8)) => by have := h.key 0; rw [key_new h.f.ac] at this; exact this)
  have HO0 := veil (fun W b O s (h : PG W b O s (newM 8 8)) => by have := h.owner 0; rw [show ownerOf (newM 8 8).L 0 = -1 by decide] at this; exact this)
  have HF0 := veil (fun W => HFx.out W 0)
  have HF3 : Hid (∀ W, Calls Try.prog 32 #[.int .u8 3] W fun e w' => e = .returned (.agg #[.bool false, .int .u64 0, .int .u8 3]) ∧ Below W.heap.size W w') := fun W => HFx.out W 3
  generalize fixK 0 = kk at HK0 HF0
  have hss := same_self kk
  go_enter Try.func13, Try.ntmps13
  go_wp2_with (first
    | (go_at_call 31; refine (HN.out).mono ?_; rintro e w1 ⟨g, O, rfl, hg, hb⟩; have HP := veil hg; have HB := veil hb; clear hg hb)
    | (go_at_call 24; refine (HK0.out _ _ _ _ HP.out).mono ?_; rintro e w2 ⟨rfl, hb⟩; have HP2 := veil (HP.out.below hb); have HB2 := veil (HB.out.trans (hb.mono HB.out.size)); clear hb)
    | (go_at_call 32; (have hh := HB3.out; clear hh); refine (HF3.out _).mono ?_; rintro e w4 ⟨rfl, hb⟩; have HB4 := veil (HB3.out.trans (hb.mono HB3.out.size)); clear hb)
    | (go_at_call 32; refine (HF0.out _).mono ?_; rintro e w3 ⟨rfl, hb⟩; have HP3 := veil (HP2.out.below hb); have HB3 := veil (HB2.out.trans (hb.mono HB2.out.size)); clear hb)
    | (go_at_call 18; refine (HO0.out _ _ _ _ HP3.out).mono ?_; rintro e wx ⟨rfl, hw⟩; replace hw := hw.symm; subst hw))
  go_ret
  exact ⟨rfl, HB4.out⟩
set_option maxRecDepth 100000 in
set_option maxHeartbeats 4000000 in
theorem TChainA (a : Option Addr) (len cap : Nat) (D : Nat → Nat) (hlen : len < 9223372036854775808) (w : World) (hd : U8s w a len D) (hh : ¬ len < 2 ∧ ¬ 8 < len) :
    Calls Try.prog 13 #[.slice a len cap] w fun e w' => e = .returned (.bool true) ∧ Below w.heap.size w w' := by
  have HN : Hid (Calls Try.prog 31 #[.int .i64 8, .int .i64 8] w fun e w' => ∃ s O, e = .returned (.pointer (some ⟨s, 0, none⟩)) ∧ PG w' w.heap.size O s (newM 8 8) ∧ Below w.heap.size w w') := pnew_ok 8 8 w (by decide) (by decide) (by decide)
  have HD := veil hd
  have HFx := veil (fun W l => fixed_ok W l)
  clear hd
  · obtain ⟨p, hp, rfl⟩ : ∃ p, 0 < p ∧ len = p + 1 := ⟨len - 1, by omega, by omega⟩
    · have hp8 : p < 8 := by omega
      have e1 : ¬ (8 : Int) < ((p + 1 : Nat) : Int) := by omega
      have e2 : ¬ ((p + 1 : Nat) : Int) < 2 := by omega
      clear hh
      go_enter Try.func13, Try.ntmps13
      go_wp2_with (first
        | (go_at_call 31; refine (HN.out).mono ?_; rintro e w1 ⟨g, O, rfl, hg, hb⟩; have HP := veil hg; have HB := veil hb; clear hg hb)
        | (go_at_call 32; refine (HFx.out _ 0).mono ?_; rintro e w2 ⟨rfl, hb⟩; have HP2 := veil (HP.out.below hb); have HB2 := veil (HB.out.trans (hb.mono HB.out.size)); clear hb))
      have hci : CI w (w2.alloc (.cells #[.bool (fixK 0).e, .int .u64 (fixK 0).d, .int .u8 (fixK 0).l] 36)) g w2.heap.size ⟨TT D 0 0, LL 0 0⟩ (fixK (mx D 0)) := by
        have hp2 := HP2.out.below ((Below.refl _ w2).alloc (Nat.le_refl _) (.cells #[.bool (fixK 0).e, .int .u64 (fixK 0).d, .int .u8 (fixK 0).l] 36))
        rw [new_TT D] at hp2
        exact ⟨⟨O, hp2, fun q => by have := HP2.out.lt q; omega⟩, World.alloc_heap_new w2 _, HB2.out.alloc HB2.out.size _, HB2.out.size⟩
      have HC0 := veil hci
      clear hci HP HP2 HB HB2 HN
      generalize w2.heap.size = mb at *
      go_loopw [6] (fun pv wr => ∃ (j : Nat), j ≤ p + 1 ∧ pv = .int .i64 j ∧ CI w wr g mb ⟨TT D j 0, LL 0 0⟩ (fixK (mx D j))) (fun pv _ => p + 1 - (intOf pv).toNat)
      case atStart => exact ⟨0, by omega, rfl, HC0.out⟩
      case round =>
        clear HC0
        obtain ⟨j, hj, rfl, hC⟩ := hrel
        by_cases hjl : j < p + 1
        · have hjl' : (j : Int) < ((p : Int) + 1) := by omega
          rcases HD.out with h0 | ⟨lb, off, rfl, hlb, hc⟩
          · omega
          obtain ⟨hd6, z⟩ := hc j (by omega)
          have z0 := (hC.be.cell (p := ⟨lb, off + j, none⟩) hlb).trans z
          have hjn : (j : Int) < (p : Int) + 1 := by omega
          have HBs := veil (fun W (h : CI w W g mb ⟨TT D j 0, LL 0 0⟩ (fixK (mx D j))) => by have := h.base (j : Int) (fixK (D j)) ⟨⟨by show (0 : Int) ≤ 0; decide, by show (0 : Int) < 18446744073709551616; decide⟩, by show (0 : Int) ≤ (D j : Int); omega, by show (D j : Int) < 256; omega⟩; rw [ch_base (by omega)] at this; exact this)
          have HMx := veil (fun V' => max_ok V' (fixK (mx D j)) (fixK (D j)))
          have HFy := veil (fun W => HFx.out W (D j))
          have HNx : Hid (maxK (fixK (mx D j)) (fixK (D j)) = fixK (mx D (j + 1))) := by
            have e : maxK (fixK (mx D j)) (fixK (D j)) = fixK (mx D (j + 1)) := by rw [maxK_fix]; rfl
            exact e
          have HC := veil hC
          have HLev : Hid (∀ W, Below w.heap.size w W → W.cell? ⟨lb, off + j, none⟩ = some (.int .u8 (D j : Int))) := fun W hb => (hb.cell (p := ⟨lb, off + j, none⟩) hlb).trans z
          generalize fixK (mx D j) = kn at HBs HMx HNx HC
          generalize fixK ((D j : Nat) : Int) = ky at HBs HMx HFy HNx
          clear hC hc z
          go_wp2_with (first
            | (go_at_call 32; refine (HFy.out _).mono ?_; rintro e w3 ⟨rfl, hb⟩; have HC3 := veil (HC.out.below hb); clear hb)
            | (go_at_call 21; refine (HBs.out _ HC3.out).mono ?_; rintro e w4 ⟨rfl, hc4⟩; have HC4 := veil hc4; have y0 := HLev.out _ hc4.be; have HKb := veil hc4.bx; clear hc4))
          have HCC : Hid (∀ V', Below w4.heap.size w4 V' → V'.cell? ⟨lb, off + j, none⟩ = some (.int .u8 (D j : Int))) := fun V' hb => HLev.out _ (HC4.out.below hb).be
          have hng : lb ≠ mb := by have := HC4.out.lo; omega
          have HCS : Hid (∀ V2, Below w4.heap.size w4 V2 → (fun w' : World => w'.cell? ⟨lb, off + j, none⟩ = some (.int .u8 (D j : Int))) (((V2.setCell ⟨mb, 0, none⟩ (.bool (maxK kn ky).e)).setCell ⟨mb, 1, none⟩ (.int .u64 (maxK kn ky).d)).setCell ⟨mb, 2, none⟩ (.int .u8 (maxK kn ky).l))) := fun V2 hb =>
            (World.cell?_of_block (by rw [Below.heap_setCell _ _ _ _ hng, Below.heap_setCell _ _ _ _ hng, Below.heap_setCell _ _ _ _ hng])).trans (HCC.out V2 hb)
          have HFin : Hid (∀ V2, Below w4.heap.size w4 V2 → CI w (((V2.setCell ⟨mb, 0, none⟩ (.bool (maxK kn ky).e)).setCell ⟨mb, 1, none⟩ (.int .u64 (maxK kn ky).d)).setCell ⟨mb, 2, none⟩ (.int .u8 (maxK kn ky).l)) g mb ⟨TT D (j + 1) 0, LL 0 0⟩ (fixK (mx D (j + 1)))) := fun V2 hb => by
            rw [← HNx.out]
            exact (HC4.out.below hb).set _
          have k0 := HKb.out.at.1
          have k1 := HKb.out.at.2.1
          have k2 := HKb.out.at.2.2
          refine wp_region_held_drew (S := (fun w' => w'.cell? ⟨lb, off + j, none⟩ = some (.int .u8 (D j : Int)))) (by kernel_rfl) y0 (fun hHeld => ?_)
          refine wpAnyH_take (i := 1) (v := ?_) rfl (by kernel_rfl) (by kernel_rfl) (by kernel_rfl) (fun _ _ _ h => h) (Or.inl ⟨by rfl, ?v1⟩) (by assumption) ?_
          case v1 => (intro w hSw; (try dsimp only at hSw); go_simp; try with_reducible rfl)
          try simp only [Act.put, List.setIfInBounds_toArray, List.set_cons_zero, List.set_cons_succ, List.getElem_toArray, List.getElem_cons_succ, List.getElem_cons_zero]
          refine wpAnyH_take (i := 2) (v := ?_) rfl (by kernel_rfl) (by kernel_rfl) (by kernel_rfl) (fun _ _ _ h => h) (Or.inl ⟨by rfl, ?v2⟩) (by assumption) ?_
          case v2 => (intro w hSw; (try dsimp only at hSw); go_simp; try with_reducible rfl)
          try simp only [Act.put, List.setIfInBounds_toArray, List.set_cons_zero, List.set_cons_succ, List.getElem_toArray, List.getElem_cons_succ, List.getElem_cons_zero]
          refine wpAnyH_take (i := 3) (v := ?_) rfl (by kernel_rfl) (by kernel_rfl) (by kernel_rfl) (fun _ _ _ h => h) (Or.inl ⟨by rfl, ?v3⟩) (by assumption) ?_
          case v3 => (intro w hSw; (try dsimp only at hSw); go_simp; try with_reducible rfl)
          try simp only [Act.put, List.setIfInBounds_toArray, List.set_cons_zero, List.set_cons_succ, List.getElem_toArray, List.getElem_cons_succ, List.getElem_cons_zero]
          refine wpAnyH_take (i := 4) (v := ?_) rfl (by kernel_rfl) (by kernel_rfl) (by kernel_rfl) (fun _ _ _ h => h) (Or.inl ⟨by rfl, ?v4⟩) (by assumption) ?_
          case v4 => (intro w hSw; (try dsimp only at hSw); go_simp; try with_reducible rfl)
          try simp only [Act.put, List.setIfInBounds_toArray, List.set_cons_zero, List.set_cons_succ, List.getElem_toArray, List.getElem_cons_succ, List.getElem_cons_zero]
          refine wpAnyH_ready (rs := [0, 5]) (by kernel_rfl) (by simp) ?_
          refine AllReadyH.cons rfl (fun K hK => ?_) (AllReadyH.cons rfl (fun K hK => ?_) AllReadyH.nil)
          · skip
            go_simp
            refine hK.out _ _ ?_ (fun hHeld => ?_)
            · exact hHeld
            clear hK K
            try simp only [Act.put, List.setIfInBounds_toArray, List.set_cons_zero, List.set_cons_succ, List.getElem_toArray, List.getElem_cons_succ, List.getElem_cons_zero]
            refine wpAnyH_ready (rs := [5]) (by kernel_rfl) (by simp) ?_
            refine AllReadyH.cons rfl (fun K hK => ?_) AllReadyH.nil
            go_simp
            go_at_call 32
            refine (HFy.out _).mono ?_
            rintro e V1 ⟨rfl, hb⟩
            have hb1 : Below w4.heap.size w4 V1 := ((Below.refl _ w4).drew).trans hb
            clear hb
            have HB1V := veil hb1
            have j0 := (HKb.out.below hb1).at.1
            have j1 := (HKb.out.below hb1).at.2.1
            have j2 := (HKb.out.below hb1).at.2.2
            have q1 := HCC.out _ hb1
            clear hb1
            refine hK.out _ _ ?_ (fun hHeld => ?_)
            · exact q1
            clear hK K
            try simp only [Act.put, List.setIfInBounds_toArray, List.set_cons_zero, List.set_cons_succ, List.getElem_toArray, List.getElem_cons_succ, List.getElem_cons_zero]
            refine wpAnyH_ready (rs := [6]) (by kernel_rfl) (by simp) ?_
            refine AllReadyH.cons rfl (fun K hK => ?_) AllReadyH.nil
            go_simp
            go_at_call 33
            refine (HMx.out _).mono ?_
            rintro e V2 ⟨rfl, hb⟩
            have hb2 : Below w4.heap.size w4 V2 := HB1V.out.trans (hb.mono HB1V.out.size)
            clear hb
            have HB2V := veil hb2
            have hK2 := HKb.out.below hb2
            have i0 := hK2.at.1
            have i1 := hK2.at.2.1
            have i2 := hK2.at.2.2
            have fz2 := hK2.frozen
            have q2 := HCC.out _ hb2
            clear hb2 hK2
            refine hK.out _ _ ?_ (fun hHeld => ?_)
            · exact q2
            clear hK K
            try simp only [Act.put, List.setIfInBounds_toArray, List.set_cons_zero, List.set_cons_succ, List.getElem_toArray, List.getElem_cons_succ, List.getElem_cons_zero]
            refine wpAnyH_ready (rs := [7]) (by kernel_rfl) (by simp) ?_
            refine AllReadyH.cons rfl (fun K hK => ?_) AllReadyH.nil
            go_simp
            refine hK.out _ _ ?_ (fun hHeld => ?_)
            · exact HCS.out V2 HB2V.out
            clear hK K
            try simp only [Act.put, List.setIfInBounds_toArray, List.set_cons_zero, List.set_cons_succ, List.getElem_toArray, List.getElem_cons_succ, List.getElem_cons_zero]
            refine wpAnyH_done (by kernel_rfl) ?_ _
            have HFN := veil (HFin.out V2 HB2V.out)
            clear HB1V HB2V HMx HCC HCS j0 j1 j2 i0 i1 i2 fz2 q1 q2 HFin
            go_wp2
            go_roundw
            case rel => exact ⟨j + 1, by omega, by go_num, HFN.out⟩
            case measure => simp [intOf]; omega
          · skip
            go_simp
            go_at_call 32
            refine (HFy.out _).mono ?_
            rintro e V1 ⟨rfl, hb⟩
            have hb1 : Below w4.heap.size w4 V1 := ((Below.refl _ w4).drew).trans hb
            clear hb
            have HB1V := veil hb1
            have j0 := (HKb.out.below hb1).at.1
            have j1 := (HKb.out.below hb1).at.2.1
            have j2 := (HKb.out.below hb1).at.2.2
            have q1 := HCC.out _ hb1
            clear hb1
            refine hK.out _ _ ?_ (fun hHeld => ?_)
            · exact q1
            clear hK K
            try simp only [Act.put, List.setIfInBounds_toArray, List.set_cons_zero, List.set_cons_succ, List.getElem_toArray, List.getElem_cons_succ, List.getElem_cons_zero]
            refine wpAnyH_ready (rs := [0]) (by kernel_rfl) (by simp) ?_
            refine AllReadyH.cons rfl (fun K hK => ?_) AllReadyH.nil
            go_simp
            refine hK.out _ _ ?_ (fun hHeld => ?_)
            · exact hHeld
            clear hK K
            try simp only [Act.put, List.setIfInBounds_toArray, List.set_cons_zero, List.set_cons_succ, List.getElem_toArray, List.getElem_cons_succ, List.getElem_cons_zero]
            refine wpAnyH_ready (rs := [6]) (by kernel_rfl) (by simp) ?_
            refine AllReadyH.cons rfl (fun K hK => ?_) AllReadyH.nil
            go_simp
            go_at_call 33
            refine (HMx.out _).mono ?_
            rintro e V2 ⟨rfl, hb⟩
            have hb2 : Below w4.heap.size w4 V2 := HB1V.out.trans (hb.mono HB1V.out.size)
            clear hb
            have HB2V := veil hb2
            have hK2 := HKb.out.below hb2
            have i0 := hK2.at.1
            have i1 := hK2.at.2.1
            have i2 := hK2.at.2.2
            have fz2 := hK2.frozen
            have q2 := HCC.out _ hb2
            clear hb2 hK2
            refine hK.out _ _ ?_ (fun hHeld => ?_)
            · exact q2
            clear hK K
            try simp only [Act.put, List.setIfInBounds_toArray, List.set_cons_zero, List.set_cons_succ, List.getElem_toArray, List.getElem_cons_succ, List.getElem_cons_zero]
            refine wpAnyH_ready (rs := [7]) (by kernel_rfl) (by simp) ?_
            refine AllReadyH.cons rfl (fun K hK => ?_) AllReadyH.nil
            go_simp
            refine hK.out _ _ ?_ (fun hHeld => ?_)
            · exact HCS.out V2 HB2V.out
            clear hK K
            try simp only [Act.put, List.setIfInBounds_toArray, List.set_cons_zero, List.set_cons_succ, List.getElem_toArray, List.getElem_cons_succ, List.getElem_cons_zero]
            refine wpAnyH_done (by kernel_rfl) ?_ _
            have HFN := veil (HFin.out V2 HB2V.out)
            clear HB1V HB2V HMx HCC HCS j0 j1 j2 i0 i1 i2 fz2 q1 q2 HFin
            go_wp2
            go_roundw
            case rel => exact ⟨j + 1, by omega, by go_num, HFN.out⟩
            case measure => simp [intOf]; omega
        · have hjl' : ¬ (j : Int) < ((p : Int) + 1) := by omega
          obtain rfl : j = p + 1 := by omega
          have HC1 := veil hC
          clear hC
          go_wp2
          go_loopw [7] (fun pv wr => ∃ (j : Nat), j ≤ p + 1 ∧ pv = .int .i64 j ∧ CI w wr g mb ⟨TT D (p + 1) 0, LL j 0⟩ (fixK (mx D (p + 1)))) (fun pv _ => p + 1 - (intOf pv).toNat)
          case atStart => exact ⟨0, by omega, rfl, HC1.out⟩
          case round =>
            clear HC1
            obtain ⟨j, hj, rfl, hC⟩ := hrel
            by_cases hjl : j < p + 1
            · have hjl' : (j : Int) < ((p : Int) + 1) := by omega
              have hlk := hC.lock (j : Int) (j : Int)
              rw [ch_lock (by omega)] at hlk
              have HLk := veil hlk
              clear hC hlk
              go_wp2_with (first
                | (go_at_call 28; refine (HLk.out).mono ?_; rintro e w5 ⟨rfl, hc5⟩; have HC5 := veil hc5; clear hc5))
              go_roundw
              case rel => exact ⟨j + 1, by omega, by go_num, HC5.out⟩
              case measure => simp [intOf]; omega
            · have hjl' : ¬ (j : Int) < ((p : Int) + 1) := by omega
              obtain rfl : j = p + 1 := by omega
              have HC2 := veil hC
              clear hC
              go_wp2
              go_loopw [10] (fun pv wr => ∃ (j : Nat), j ≤ p ∧ pv = .int .i64 j ∧ CI w wr g mb ⟨TT D (p + 1) j, LL (p + 1) j⟩ (fixK (mx D (p + 1)))) (fun pv _ => p - (intOf pv).toNat)
              case atStart => exact ⟨0, by omega, rfl, HC2.out⟩
              case round =>
                clear HC2
                obtain ⟨j, hj, rfl, hC⟩ := hrel
                by_cases hjl : j < p
                · have hjl' : (j : Int) < (p : Int) := by omega
                  have hlk := hC.lock (j : Int) ((j : Int) + 1)
                  rw [ch_wait (by omega) (by omega)] at hlk
                  have HLk := veil hlk
                  clear hC hlk
                  go_wp2_with (first
                    | (go_at_call 28; refine (HLk.out).mono ?_; rintro e w5 ⟨rfl, hc5⟩; have HC5 := veil hc5; clear hc5))
                  go_roundw
                  case rel => exact ⟨j + 1, by omega, by go_num, HC5.out⟩
                  case measure => simp [intOf]; omega
                · have hjl' : ¬ (j : Int) < (p : Int) := by omega
                  obtain rfl : p = j := by omega
                  have hlk := hC.lock (p : Int) 0
                  rw [ch_ring (by omega) (by omega)] at hlk
                  have HLk := veil hlk
                  clear hC hlk
                  go_wp2_with (first
                    | (go_at_call 28; refine (HLk.out).mono ?_; rintro e w6 ⟨rfl, hc6⟩; have HC6 := veil hc6; clear hc6))
                  rcases HD.out with h0 | ⟨lb, off, rfl, hlb, hc⟩
                  · omega
                  obtain ⟨hd6, z⟩ := hc p (by omega)
                  have HLev : Hid (∀ W, Below w.heap.size w W → W.cell? ⟨lb, off + p, none⟩ = some (.int .u8 (D p : Int))) := fun W hb => (hb.cell (p := ⟨lb, off + p, none⟩) hlb).trans z
                  have hk6 := HC6.out.drew.key (p : Int)
                  rw [ch_keyA (by omega) HC6.out.f.ac] at hk6
                  generalize fixK (mx D (p + 1)) = kk at HC6 hk6
                  have HK6 := veil hk6
                  have hss := same_self kk
                  have HSS : Hid (∀ W, KBox W mb kk → W.cell? ⟨mb, 0, none⟩ = some (.bool kk.e) ∧ W.cell? ⟨mb, 1, none⟩ = some (.int .u64 kk.d) ∧ W.cell? ⟨mb, 2, none⟩ = some (.int .u8 kk.l)) := fun W h => h.at
                  have hS1 := veil (HSS.out _ HC6.out.bx)
                  have hS2 := veil (HSS.out _ HC6.out.drew.bx)
                  have HUn := veil (fun W (h : CI w W g mb ⟨TT D (p + 1) p, LL (p + 1) p⟩ kk) => by have := h.unlock (p : Int) (p : Int); rw [ch_unl (by omega) (by omega), show (((p - 1 : Nat)) : Int) = (p : Int) - 1 by omega] at this; exact this)
                  have HKl := veil (fun W (h : CI w W g mb (chM D p) kk) => by have := h.key (p : Int); rw [ch_last (by omega) (by omega) h.f.ac] at this; exact this)
                  have HFy := veil (fun W => HFx.out W (D p))
                  have hs2 := same_self (fixK ((D p : Nat) : Int))
                  generalize fixK ((D p : Nat) : Int) = ky at HKl HFy hs2
                  have hn1 : ((p : Int) - 1 == (p : Int) + 1 - 2) = true := by simp; omega
                  have hb0 : (0 : Int) ≤ (p : Int) := by omega
                  have hb1 : (p : Int) < ((p + 1 : Nat) : Int) := by omega
                  have hb2 : (p : Int) < (p : Int) + 1 := by omega
                  have hb3 : (p : Int) + 1 - 1 = (p : Int) := by omega
                  have hw2 : IntKind.i64.wrap ((p : Int) + 1 - 2) = (p : Int) - 1 := by simp [IntKind.wrap, IntKind.bits, IntKind.signed]; omega
                  have hw3 : IntKind.i64.wrap ((p : Int) - 1) = (p : Int) - 1 := by simp [IntKind.wrap, IntKind.bits, IntKind.signed]; omega
                  have hwp : IntKind.i64.wrap (p : Int) = (p : Int) := by simp [IntKind.wrap, IntKind.bits, IntKind.signed]; omega
                  clear hk6 HLk hc z
                  go_region_held3 (fun w' => (w'.cell? ⟨mb, 0, none⟩ = some (.bool kk.e) ∧ w'.cell? ⟨mb, 1, none⟩ = some (.int .u64 kk.d) ∧ w'.cell? ⟨mb, 2, none⟩ = some (.int .u8 kk.l)))
                    (first | with_reducible exact hS1.out | with_reducible exact hS2.out | with_reducible exact hS3.out)
                    (first
                      | (go_at_call 24; (try rw [hwp]); refine (HK6.out).mono ?_; rintro e w7 ⟨rfl, hc7⟩; have hS3 := veil (HSS.out _ hc7.bx); have HC7 := veil hc7; clear hc7))
                  go_wp2_with (first
                    | (go_at_call 26; refine (HUn.out _ HC7.out).mono ?_; rintro e w8 ⟨rfl, hc8⟩; have HC8 := veil hc8; have y8 := HLev.out _ hc8.be; clear hc8))
                  skip
                  have hT1 := veil y8
                  have hT2 : Hid (w8.drew.cell? ⟨lb, off + p, none⟩ = some (.int .u8 (D p : Int))) := y8
                  go_region_held3 (fun w' => w'.cell? ⟨lb, off + p, none⟩ = some (.int .u8 (D p : Int)))
                    (first | with_reducible exact hT1.out | with_reducible exact hT2.out | with_reducible exact hT3.out | with_reducible exact hT4.out)
                    (first
                      | (go_at_call 24; (try rw [hwp]); refine (HKl.out _ HC8.out.drew).mono ?_; rintro e w9 ⟨rfl, hc9⟩; have hT3 := veil (HLev.out _ hc9.be); have HC9 := veil hc9; clear hc9)
                      | (go_at_call 32; refine (HFy.out _).mono ?_; rintro e wa ⟨rfl, hb⟩; have HCa := veil (HC9.out.below hb); have hT4 := veil (HLev.out _ HCa.out.be); clear hb))
                  go_wp2
                  go_ret
                  exact ⟨rfl, HCa.out.be⟩
set_option maxRecDepth 100000 in
set_option maxHeartbeats 4000000 in
theorem TChainB (a : Option Addr) (len cap : Nat) (D : Nat → Nat) (hlen : len < 9223372036854775808) (w : World) (hd : U8s w a len D) (hh : 8 < len) :
    Calls Try.prog 13 #[.slice a len cap] w fun e w' => e = .returned (.bool true) ∧ Below w.heap.size w w' := by
  have HN : Hid (Calls Try.prog 31 #[.int .i64 8, .int .i64 8] w fun e w' => ∃ s O, e = .returned (.pointer (some ⟨s, 0, none⟩)) ∧ PG w' w.heap.size O s (newM 8 8) ∧ Below w.heap.size w w') := pnew_ok 8 8 w (by decide) (by decide) (by decide)
  have HD := veil hd
  have HFx := veil (fun W l => fixed_ok W l)
  clear hd
  · skip
    · have e1 : (8 : Int) < (len : Int) := by omega
      go_enter Try.func13, Try.ntmps13
      go_wp2_with (first
        | (go_at_call 31; refine (HN.out).mono ?_; rintro e w1 ⟨g, O, rfl, hg, hb⟩; have HP := veil hg; have HB := veil hb; clear hg hb)
        | (go_at_call 32; refine (HFx.out _ 0).mono ?_; rintro e w2 ⟨rfl, hb⟩; have HP2 := veil (HP.out.below hb); have HB2 := veil (HB.out.trans (hb.mono HB.out.size)); clear hb))
      obtain ⟨p, hp7⟩ : ∃ p : Nat, p = 7 := ⟨7, rfl⟩
      have h8e : (8 : Int) = (p : Int) + 1 := by omega
      have hp : 0 < p := by omega
      have hp8 : p < 8 := by omega
      have hpl : p + 1 < len := by omega
      rw [h8e]
      clear h8e hp7 e1 hh
      have hci : CI w (w2.alloc (.cells #[.bool (fixK 0).e, .int .u64 (fixK 0).d, .int .u8 (fixK 0).l] 36)) g w2.heap.size ⟨TT D 0 0, LL 0 0⟩ (fixK (mx D 0)) := by
        have hp2 := HP2.out.below ((Below.refl _ w2).alloc (Nat.le_refl _) (.cells #[.bool (fixK 0).e, .int .u64 (fixK 0).d, .int .u8 (fixK 0).l] 36))
        rw [new_TT D] at hp2
        exact ⟨⟨O, hp2, fun q => by have := HP2.out.lt q; omega⟩, World.alloc_heap_new w2 _, HB2.out.alloc HB2.out.size _, HB2.out.size⟩
      have HC0 := veil hci
      clear hci HP HP2 HB HB2 HN
      generalize w2.heap.size = mb at *
      go_loopw [6] (fun pv wr => ∃ (j : Nat), j ≤ p + 1 ∧ pv = .int .i64 j ∧ CI w wr g mb ⟨TT D j 0, LL 0 0⟩ (fixK (mx D j))) (fun pv _ => p + 1 - (intOf pv).toNat)
      case atStart => exact ⟨0, by omega, rfl, HC0.out⟩
      case round =>
        clear HC0
        obtain ⟨j, hj, rfl, hC⟩ := hrel
        by_cases hjl : j < p + 1
        · have hjl' : (j : Int) < ((p : Int) + 1) := by omega
          rcases HD.out with h0 | ⟨lb, off, rfl, hlb, hc⟩
          · omega
          obtain ⟨hd6, z⟩ := hc j (by omega)
          have z0 := (hC.be.cell (p := ⟨lb, off + j, none⟩) hlb).trans z
          have hjn : (j : Int) < (len : Int) := by omega
          have HBs := veil (fun W (h : CI w W g mb ⟨TT D j 0, LL 0 0⟩ (fixK (mx D j))) => by have := h.base (j : Int) (fixK (D j)) ⟨⟨by show (0 : Int) ≤ 0; decide, by show (0 : Int) < 18446744073709551616; decide⟩, by show (0 : Int) ≤ (D j : Int); omega, by show (D j : Int) < 256; omega⟩; rw [ch_base (by omega)] at this; exact this)
          have HMx := veil (fun V' => max_ok V' (fixK (mx D j)) (fixK (D j)))
          have HFy := veil (fun W => HFx.out W (D j))
          have HNx : Hid (maxK (fixK (mx D j)) (fixK (D j)) = fixK (mx D (j + 1))) := by
            have e : maxK (fixK (mx D j)) (fixK (D j)) = fixK (mx D (j + 1)) := by rw [maxK_fix]; rfl
            exact e
          have HC := veil hC
          have HLev : Hid (∀ W, Below w.heap.size w W → W.cell? ⟨lb, off + j, none⟩ = some (.int .u8 (D j : Int))) := fun W hb => (hb.cell (p := ⟨lb, off + j, none⟩) hlb).trans z
          generalize fixK (mx D j) = kn at HBs HMx HNx HC
          generalize fixK ((D j : Nat) : Int) = ky at HBs HMx HFy HNx
          clear hC hc z
          go_wp2_with (first
            | (go_at_call 32; refine (HFy.out _).mono ?_; rintro e w3 ⟨rfl, hb⟩; have HC3 := veil (HC.out.below hb); clear hb)
            | (go_at_call 21; refine (HBs.out _ HC3.out).mono ?_; rintro e w4 ⟨rfl, hc4⟩; have HC4 := veil hc4; have y0 := HLev.out _ hc4.be; have HKb := veil hc4.bx; clear hc4))
          have HCC : Hid (∀ V', Below w4.heap.size w4 V' → V'.cell? ⟨lb, off + j, none⟩ = some (.int .u8 (D j : Int))) := fun V' hb => HLev.out _ (HC4.out.below hb).be
          have hng : lb ≠ mb := by have := HC4.out.lo; omega
          have HCS : Hid (∀ V2, Below w4.heap.size w4 V2 → (fun w' : World => w'.cell? ⟨lb, off + j, none⟩ = some (.int .u8 (D j : Int))) (((V2.setCell ⟨mb, 0, none⟩ (.bool (maxK kn ky).e)).setCell ⟨mb, 1, none⟩ (.int .u64 (maxK kn ky).d)).setCell ⟨mb, 2, none⟩ (.int .u8 (maxK kn ky).l))) := fun V2 hb =>
            (World.cell?_of_block (by rw [Below.heap_setCell _ _ _ _ hng, Below.heap_setCell _ _ _ _ hng, Below.heap_setCell _ _ _ _ hng])).trans (HCC.out V2 hb)
          have HFin : Hid (∀ V2, Below w4.heap.size w4 V2 → CI w (((V2.setCell ⟨mb, 0, none⟩ (.bool (maxK kn ky).e)).setCell ⟨mb, 1, none⟩ (.int .u64 (maxK kn ky).d)).setCell ⟨mb, 2, none⟩ (.int .u8 (maxK kn ky).l)) g mb ⟨TT D (j + 1) 0, LL 0 0⟩ (fixK (mx D (j + 1)))) := fun V2 hb => by
            rw [← HNx.out]
            exact (HC4.out.below hb).set _
          have k0 := HKb.out.at.1
          have k1 := HKb.out.at.2.1
          have k2 := HKb.out.at.2.2
          refine wp_region_held_drew (S := (fun w' => w'.cell? ⟨lb, off + j, none⟩ = some (.int .u8 (D j : Int)))) (by kernel_rfl) y0 (fun hHeld => ?_)
          refine wpAnyH_take (i := 1) (v := ?_) rfl (by kernel_rfl) (by kernel_rfl) (by kernel_rfl) (fun _ _ _ h => h) (Or.inl ⟨by rfl, ?v1⟩) (by assumption) ?_
          case v1 => (intro w hSw; (try dsimp only at hSw); go_simp; try with_reducible rfl)
          try simp only [Act.put, List.setIfInBounds_toArray, List.set_cons_zero, List.set_cons_succ, List.getElem_toArray, List.getElem_cons_succ, List.getElem_cons_zero]
          refine wpAnyH_take (i := 2) (v := ?_) rfl (by kernel_rfl) (by kernel_rfl) (by kernel_rfl) (fun _ _ _ h => h) (Or.inl ⟨by rfl, ?v2⟩) (by assumption) ?_
          case v2 => (intro w hSw; (try dsimp only at hSw); go_simp; try with_reducible rfl)
          try simp only [Act.put, List.setIfInBounds_toArray, List.set_cons_zero, List.set_cons_succ, List.getElem_toArray, List.getElem_cons_succ, List.getElem_cons_zero]
          refine wpAnyH_take (i := 3) (v := ?_) rfl (by kernel_rfl) (by kernel_rfl) (by kernel_rfl) (fun _ _ _ h => h) (Or.inl ⟨by rfl, ?v3⟩) (by assumption) ?_
          case v3 => (intro w hSw; (try dsimp only at hSw); go_simp; try with_reducible rfl)
          try simp only [Act.put, List.setIfInBounds_toArray, List.set_cons_zero, List.set_cons_succ, List.getElem_toArray, List.getElem_cons_succ, List.getElem_cons_zero]
          refine wpAnyH_take (i := 4) (v := ?_) rfl (by kernel_rfl) (by kernel_rfl) (by kernel_rfl) (fun _ _ _ h => h) (Or.inl ⟨by rfl, ?v4⟩) (by assumption) ?_
          case v4 => (intro w hSw; (try dsimp only at hSw); go_simp; try with_reducible rfl)
          try simp only [Act.put, List.setIfInBounds_toArray, List.set_cons_zero, List.set_cons_succ, List.getElem_toArray, List.getElem_cons_succ, List.getElem_cons_zero]
          refine wpAnyH_ready (rs := [0, 5]) (by kernel_rfl) (by simp) ?_
          refine AllReadyH.cons rfl (fun K hK => ?_) (AllReadyH.cons rfl (fun K hK => ?_) AllReadyH.nil)
          · skip
            go_simp
            refine hK.out _ _ ?_ (fun hHeld => ?_)
            · exact hHeld
            clear hK K
            try simp only [Act.put, List.setIfInBounds_toArray, List.set_cons_zero, List.set_cons_succ, List.getElem_toArray, List.getElem_cons_succ, List.getElem_cons_zero]
            refine wpAnyH_ready (rs := [5]) (by kernel_rfl) (by simp) ?_
            refine AllReadyH.cons rfl (fun K hK => ?_) AllReadyH.nil
            go_simp
            go_at_call 32
            refine (HFy.out _).mono ?_
            rintro e V1 ⟨rfl, hb⟩
            have hb1 : Below w4.heap.size w4 V1 := ((Below.refl _ w4).drew).trans hb
            clear hb
            have HB1V := veil hb1
            have j0 := (HKb.out.below hb1).at.1
            have j1 := (HKb.out.below hb1).at.2.1
            have j2 := (HKb.out.below hb1).at.2.2
            have q1 := HCC.out _ hb1
            clear hb1
            refine hK.out _ _ ?_ (fun hHeld => ?_)
            · exact q1
            clear hK K
            try simp only [Act.put, List.setIfInBounds_toArray, List.set_cons_zero, List.set_cons_succ, List.getElem_toArray, List.getElem_cons_succ, List.getElem_cons_zero]
            refine wpAnyH_ready (rs := [6]) (by kernel_rfl) (by simp) ?_
            refine AllReadyH.cons rfl (fun K hK => ?_) AllReadyH.nil
            go_simp
            go_at_call 33
            refine (HMx.out _).mono ?_
            rintro e V2 ⟨rfl, hb⟩
            have hb2 : Below w4.heap.size w4 V2 := HB1V.out.trans (hb.mono HB1V.out.size)
            clear hb
            have HB2V := veil hb2
            have hK2 := HKb.out.below hb2
            have i0 := hK2.at.1
            have i1 := hK2.at.2.1
            have i2 := hK2.at.2.2
            have fz2 := hK2.frozen
            have q2 := HCC.out _ hb2
            clear hb2 hK2
            refine hK.out _ _ ?_ (fun hHeld => ?_)
            · exact q2
            clear hK K
            try simp only [Act.put, List.setIfInBounds_toArray, List.set_cons_zero, List.set_cons_succ, List.getElem_toArray, List.getElem_cons_succ, List.getElem_cons_zero]
            refine wpAnyH_ready (rs := [7]) (by kernel_rfl) (by simp) ?_
            refine AllReadyH.cons rfl (fun K hK => ?_) AllReadyH.nil
            go_simp
            refine hK.out _ _ ?_ (fun hHeld => ?_)
            · exact HCS.out V2 HB2V.out
            clear hK K
            try simp only [Act.put, List.setIfInBounds_toArray, List.set_cons_zero, List.set_cons_succ, List.getElem_toArray, List.getElem_cons_succ, List.getElem_cons_zero]
            refine wpAnyH_done (by kernel_rfl) ?_ _
            have HFN := veil (HFin.out V2 HB2V.out)
            clear HB1V HB2V HMx HCC HCS j0 j1 j2 i0 i1 i2 fz2 q1 q2 HFin
            go_wp2
            go_roundw
            case rel => exact ⟨j + 1, by omega, by go_num, HFN.out⟩
            case measure => simp [intOf]; omega
          · skip
            go_simp
            go_at_call 32
            refine (HFy.out _).mono ?_
            rintro e V1 ⟨rfl, hb⟩
            have hb1 : Below w4.heap.size w4 V1 := ((Below.refl _ w4).drew).trans hb
            clear hb
            have HB1V := veil hb1
            have j0 := (HKb.out.below hb1).at.1
            have j1 := (HKb.out.below hb1).at.2.1
            have j2 := (HKb.out.below hb1).at.2.2
            have q1 := HCC.out _ hb1
            clear hb1
            refine hK.out _ _ ?_ (fun hHeld => ?_)
            · exact q1
            clear hK K
            try simp only [Act.put, List.setIfInBounds_toArray, List.set_cons_zero, List.set_cons_succ, List.getElem_toArray, List.getElem_cons_succ, List.getElem_cons_zero]
            refine wpAnyH_ready (rs := [0]) (by kernel_rfl) (by simp) ?_
            refine AllReadyH.cons rfl (fun K hK => ?_) AllReadyH.nil
            go_simp
            refine hK.out _ _ ?_ (fun hHeld => ?_)
            · exact hHeld
            clear hK K
            try simp only [Act.put, List.setIfInBounds_toArray, List.set_cons_zero, List.set_cons_succ, List.getElem_toArray, List.getElem_cons_succ, List.getElem_cons_zero]
            refine wpAnyH_ready (rs := [6]) (by kernel_rfl) (by simp) ?_
            refine AllReadyH.cons rfl (fun K hK => ?_) AllReadyH.nil
            go_simp
            go_at_call 33
            refine (HMx.out _).mono ?_
            rintro e V2 ⟨rfl, hb⟩
            have hb2 : Below w4.heap.size w4 V2 := HB1V.out.trans (hb.mono HB1V.out.size)
            clear hb
            have HB2V := veil hb2
            have hK2 := HKb.out.below hb2
            have i0 := hK2.at.1
            have i1 := hK2.at.2.1
            have i2 := hK2.at.2.2
            have fz2 := hK2.frozen
            have q2 := HCC.out _ hb2
            clear hb2 hK2
            refine hK.out _ _ ?_ (fun hHeld => ?_)
            · exact q2
            clear hK K
            try simp only [Act.put, List.setIfInBounds_toArray, List.set_cons_zero, List.set_cons_succ, List.getElem_toArray, List.getElem_cons_succ, List.getElem_cons_zero]
            refine wpAnyH_ready (rs := [7]) (by kernel_rfl) (by simp) ?_
            refine AllReadyH.cons rfl (fun K hK => ?_) AllReadyH.nil
            go_simp
            refine hK.out _ _ ?_ (fun hHeld => ?_)
            · exact HCS.out V2 HB2V.out
            clear hK K
            try simp only [Act.put, List.setIfInBounds_toArray, List.set_cons_zero, List.set_cons_succ, List.getElem_toArray, List.getElem_cons_succ, List.getElem_cons_zero]
            refine wpAnyH_done (by kernel_rfl) ?_ _
            have HFN := veil (HFin.out V2 HB2V.out)
            clear HB1V HB2V HMx HCC HCS j0 j1 j2 i0 i1 i2 fz2 q1 q2 HFin
            go_wp2
            go_roundw
            case rel => exact ⟨j + 1, by omega, by go_num, HFN.out⟩
            case measure => simp [intOf]; omega
        · have hjl' : ¬ (j : Int) < ((p : Int) + 1) := by omega
          obtain rfl : j = p + 1 := by omega
          have HC1 := veil hC
          clear hC
          go_wp2
          go_loopw [7] (fun pv wr => ∃ (j : Nat), j ≤ p + 1 ∧ pv = .int .i64 j ∧ CI w wr g mb ⟨TT D (p + 1) 0, LL j 0⟩ (fixK (mx D (p + 1)))) (fun pv _ => p + 1 - (intOf pv).toNat)
          case atStart => exact ⟨0, by omega, rfl, HC1.out⟩
          case round =>
            clear HC1
            obtain ⟨j, hj, rfl, hC⟩ := hrel
            by_cases hjl : j < p + 1
            · have hjl' : (j : Int) < ((p : Int) + 1) := by omega
              have hlk := hC.lock (j : Int) (j : Int)
              rw [ch_lock (by omega)] at hlk
              have HLk := veil hlk
              clear hC hlk
              go_wp2_with (first
                | (go_at_call 28; refine (HLk.out).mono ?_; rintro e w5 ⟨rfl, hc5⟩; have HC5 := veil hc5; clear hc5))
              go_roundw
              case rel => exact ⟨j + 1, by omega, by go_num, HC5.out⟩
              case measure => simp [intOf]; omega
            · have hjl' : ¬ (j : Int) < ((p : Int) + 1) := by omega
              obtain rfl : j = p + 1 := by omega
              have HC2 := veil hC
              clear hC
              go_wp2
              go_loopw [10] (fun pv wr => ∃ (j : Nat), j ≤ p ∧ pv = .int .i64 j ∧ CI w wr g mb ⟨TT D (p + 1) j, LL (p + 1) j⟩ (fixK (mx D (p + 1)))) (fun pv _ => p - (intOf pv).toNat)
              case atStart => exact ⟨0, by omega, rfl, HC2.out⟩
              case round =>
                clear HC2
                obtain ⟨j, hj, rfl, hC⟩ := hrel
                by_cases hjl : j < p
                · have hjl' : (j : Int) < (p : Int) := by omega
                  have hlk := hC.lock (j : Int) ((j : Int) + 1)
                  rw [ch_wait (by omega) (by omega)] at hlk
                  have HLk := veil hlk
                  clear hC hlk
                  go_wp2_with (first
                    | (go_at_call 28; refine (HLk.out).mono ?_; rintro e w5 ⟨rfl, hc5⟩; have HC5 := veil hc5; clear hc5))
                  go_roundw
                  case rel => exact ⟨j + 1, by omega, by go_num, HC5.out⟩
                  case measure => simp [intOf]; omega
                · have hjl' : ¬ (j : Int) < (p : Int) := by omega
                  obtain rfl : p = j := by omega
                  have hlk := hC.lock (p : Int) 0
                  rw [ch_ring (by omega) (by omega)] at hlk
                  have HLk := veil hlk
                  clear hC hlk
                  go_wp2_with (first
                    | (go_at_call 28; refine (HLk.out).mono ?_; rintro e w6 ⟨rfl, hc6⟩; have HC6 := veil hc6; clear hc6))
                  rcases HD.out with h0 | ⟨lb, off, rfl, hlb, hc⟩
                  · omega
                  obtain ⟨hd6, z⟩ := hc p (by omega)
                  have HLev : Hid (∀ W, Below w.heap.size w W → W.cell? ⟨lb, off + p, none⟩ = some (.int .u8 (D p : Int))) := fun W hb => (hb.cell (p := ⟨lb, off + p, none⟩) hlb).trans z
                  have hk6 := HC6.out.drew.key (p : Int)
                  rw [ch_keyA (by omega) HC6.out.f.ac] at hk6
                  generalize fixK (mx D (p + 1)) = kk at HC6 hk6
                  have HK6 := veil hk6
                  have hss := same_self kk
                  have HSS : Hid (∀ W, KBox W mb kk → W.cell? ⟨mb, 0, none⟩ = some (.bool kk.e) ∧ W.cell? ⟨mb, 1, none⟩ = some (.int .u64 kk.d) ∧ W.cell? ⟨mb, 2, none⟩ = some (.int .u8 kk.l)) := fun W h => h.at
                  have hS1 := veil (HSS.out _ HC6.out.bx)
                  have hS2 := veil (HSS.out _ HC6.out.drew.bx)
                  have HUn := veil (fun W (h : CI w W g mb ⟨TT D (p + 1) p, LL (p + 1) p⟩ kk) => by have := h.unlock (p : Int) (p : Int); rw [ch_unl (by omega) (by omega), show (((p - 1 : Nat)) : Int) = (p : Int) - 1 by omega] at this; exact this)
                  have HKl := veil (fun W (h : CI w W g mb (chM D p) kk) => by have := h.key (p : Int); rw [ch_last (by omega) (by omega) h.f.ac] at this; exact this)
                  have HFy := veil (fun W => HFx.out W (D p))
                  have hs2 := same_self (fixK ((D p : Nat) : Int))
                  generalize fixK ((D p : Nat) : Int) = ky at HKl HFy hs2
                  have hn1 : ((p : Int) - 1 == (p : Int) + 1 - 2) = true := by simp; omega
                  have hb0 : (0 : Int) ≤ (p : Int) := by omega
                  have hb1 : (p : Int) < (len : Int) := by omega
                  have hb2 : (p : Int) < (p : Int) + 1 := by omega
                  have hb3 : (p : Int) + 1 - 1 = (p : Int) := by omega
                  have hw2 : IntKind.i64.wrap ((p : Int) + 1 - 2) = (p : Int) - 1 := by simp [IntKind.wrap, IntKind.bits, IntKind.signed]; omega
                  have hw3 : IntKind.i64.wrap ((p : Int) - 1) = (p : Int) - 1 := by simp [IntKind.wrap, IntKind.bits, IntKind.signed]; omega
                  have hwp : IntKind.i64.wrap (p : Int) = (p : Int) := by simp [IntKind.wrap, IntKind.bits, IntKind.signed]; omega
                  clear hk6 HLk hc z
                  go_region_held3 (fun w' => (w'.cell? ⟨mb, 0, none⟩ = some (.bool kk.e) ∧ w'.cell? ⟨mb, 1, none⟩ = some (.int .u64 kk.d) ∧ w'.cell? ⟨mb, 2, none⟩ = some (.int .u8 kk.l)))
                    (first | with_reducible exact hS1.out | with_reducible exact hS2.out | with_reducible exact hS3.out)
                    (first
                      | (go_at_call 24; (try rw [hwp]); refine (HK6.out).mono ?_; rintro e w7 ⟨rfl, hc7⟩; have hS3 := veil (HSS.out _ hc7.bx); have HC7 := veil hc7; clear hc7))
                  go_wp2_with (first
                    | (go_at_call 26; refine (HUn.out _ HC7.out).mono ?_; rintro e w8 ⟨rfl, hc8⟩; have HC8 := veil hc8; have y8 := HLev.out _ hc8.be; clear hc8))
                  skip
                  have hT1 := veil y8
                  have hT2 : Hid (w8.drew.cell? ⟨lb, off + p, none⟩ = some (.int .u8 (D p : Int))) := y8
                  go_region_held3 (fun w' => w'.cell? ⟨lb, off + p, none⟩ = some (.int .u8 (D p : Int)))
                    (first | with_reducible exact hT1.out | with_reducible exact hT2.out | with_reducible exact hT3.out | with_reducible exact hT4.out)
                    (first
                      | (go_at_call 24; (try rw [hwp]); refine (HKl.out _ HC8.out.drew).mono ?_; rintro e w9 ⟨rfl, hc9⟩; have hT3 := veil (HLev.out _ hc9.be); have HC9 := veil hc9; clear hc9)
                      | (go_at_call 32; refine (HFy.out _).mono ?_; rintro e wa ⟨rfl, hb⟩; have HCa := veil (HC9.out.below hb); have hT4 := veil (HLev.out _ HCa.out.be); clear hb))
                  go_wp2
                  go_ret
                  exact ⟨rfl, HCa.out.be⟩
theorem TChain_walk (a : Option Addr) (len cap : Nat) (D : Nat → Nat) (hlen : len < 9223372036854775808) (w : World) (hd : U8s w a len D) :
    Calls Try.prog 13 #[.slice a len cap] w fun e w' => e = .returned (.bool true) ∧ Below w.heap.size w w' := by
  by_cases h2 : len < 2
  · exact TChain0 a len cap D hlen w hd h2
  · by_cases h8 : 8 < len
    · exact TChainB a len cap D hlen w hd h8
    · exact TChainA a len cap D hlen w hd ⟨h2, h8⟩
end Go.Proofs.Ytbhkgbhgofefjaa
