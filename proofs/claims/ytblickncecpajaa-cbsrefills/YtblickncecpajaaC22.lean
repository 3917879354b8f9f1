/-
  The document's servers: Wake, Refill.
-/
import Derived.Test.YtblickncecpajaaC21
namespace Go.Proofs.Ytblickncecpajaa
open Go.RowKit Go.Lib
set_option linter.unusedVariables false
section
variable {w : World} {base s P : Nat} {v : Value} {L : List Srv}
theorem rwake_range (h : Rep w base s P v L) (i : Int) (now : Nat) (hi : inL L i = false) : Calls Try.prog 44 #[.pointer (some ⟨s, 0, none⟩), .int .i64 i, .int .u64 (now : Int)] w fun e w' => e = .returned (.int .i64 2) ∧ w' = w := by
  have HH := veil (rhas_ok h i)
  rw [hi] at HH
  clear h hi
  go_enter Try.func44, Try.ntmps44
  go_wp2_with (go_at_call 48; refine (HH.out).mono ?_; rintro e w1 ⟨rfl, hw⟩; replace hw := hw.symm; subst hw)
  go_ret
  exact ⟨rfl, rfl⟩
theorem rwake_some (h : Rep w base s P v L) (k now : Nat) (x : Srv) (hx : L[k]? = some x) (hn : now < 18446744073709551616) : Calls Try.prog 44 #[.pointer (some ⟨s, 0, none⟩), .int .i64 (k : Int), .int .u64 (now : Int)] w fun e w' => e = .returned (.int .i64 0) ∧ Rep w' base s P v (if x.d ≤ now then L.set k (fillS x now) else L) ∧ Fr (fun k => some k = v.ownBlock) w w' := by
  have hk : k < L.length := (List.getElem?_eq_some_iff.1 hx).1
  have hk' : (k : Int) < (L.length : Int) := by omega
  have HH := veil (rhas_ok h k)
  rw [(atL_some hx).2] at HH
  have HP := veil h
  have HF := veil (rfill_ok h k now x hx hn)
  obtain ⟨g, cap, rfl, hc1, hc2, hg, hgs, hfz, hc⟩ := h.cells (by omega)
  obtain ⟨c1, y0, y1, y2, y3, y4, _⟩ := h.one hx
  clear h hc hfz
  by_cases hd : x.d ≤ now
  · rw [if_pos hd]
    have hd' : ¬ (now : Int) < (x.d : Int) := by omega
    cases hz : (x.d == 0) with
    | true =>
      rw [hz] at y4
      go_enter Try.func44, Try.ntmps44
      go_wp2_with (first
        | (go_at_call 48; refine (HH.out).mono ?_; rintro e w1 ⟨rfl, hw⟩; replace hw := hw.symm; subst hw)
        | (go_at_call 52; refine (HF.out).mono ?_; rintro e w2 ⟨⟨u, rfl⟩, h2, h3⟩; have H2 := veil h2; have H3 := veil h3; clear h2 h3))
      go_ret
      exact ⟨rfl, H2.out, H3.out⟩
    | false =>
      rw [hz] at y4
      go_enter Try.func44, Try.ntmps44
      go_wp2_with (first
        | (go_at_call 48; refine (HH.out).mono ?_; rintro e w1 ⟨rfl, hw⟩; replace hw := hw.symm; subst hw)
        | (go_at_call 52; refine (HF.out).mono ?_; rintro e w2 ⟨⟨u, rfl⟩, h2, h3⟩; have H2 := veil h2; have H3 := veil h3; clear h2 h3))
      go_ret
      exact ⟨rfl, H2.out, H3.out⟩
  · rw [if_neg hd]
    have hz : (x.d == 0) = false := by simp; omega
    have hd' : (now : Int) < (x.d : Int) := by omega
    have hd2 : ¬ (x.d : Int) ≤ (now : Int) := by omega
    rw [hz] at y4
    go_enter Try.func44, Try.ntmps44
    go_wp2_with (first
      | (go_at_call 48; refine (HH.out).mono ?_; rintro e w1 ⟨rfl, hw⟩; replace hw := hw.symm; subst hw))
    go_ret
    exact ⟨rfl, HP.out, Fr.refl _ _⟩
set_option maxHeartbeats 1000000 in
theorem rrefill_ok (h : Rep w base s P v L) (now : Nat) (hn : now < 18446744073709551616) : Calls Try.prog 47 #[.pointer (some ⟨s, 0, none⟩), .int .u64 (now : Int)] w fun e w' => ∃ lv, e = .returned lv ∧ w'.ownsRow w.heap.size 3 1 lv (dueN L now L.length).length (intsN (dueN L now L.length)) ∧ Rep w' base s P v (L.map (refS now)) ∧ Fr (fun b => some b = v.ownBlock) w w' := by
  obtain ⟨i0, hi, hz0, hz1, hz2⟩ := info_parts infoInt
  have hlen := h.f.len
  have hvw : ∀ b, v.ownBlock = some b → b < w.heap.size := fun b hb => (ownsRow_blk h.own hb).2.1
  have hs := h.lt
  have HR0 := veil h
  clear h
  go_enter Try.func47, Try.ntmps47
  go_wp2
  go_loopw [5, 6] (fun o i wr => ∃ k : Nat, k ≤ L.length ∧ i = .int .i64 (k : Int) ∧ wr.ownsRow w.heap.size 3 1 o (dueN L now k).length (intsN (dueN L now k)) ∧ Rep wr base s P v (fillN L now k) ∧ Fr (fun b => some b = v.ownBlock) w wr) (fun _ i _ => L.length - (intOf i).toNat)
  case atStart => exact ⟨0, by omega, rfl, World.ownsRow_nil _ _ _ _, by rw [fillN_zero]; exact HR0.out, Fr.refl _ _⟩
  case round =>
    obtain ⟨k, hk, rfl, ho, hr, hf⟩ := hrel
    have HO := veil ho
    have HR := veil hr
    have HF := veil hf
    obtain ⟨a, cap, hv, hc1, hc2⟩ := hr.form
    rw [fillN_len] at hv
    have c1 := hr.c1
    rw [hv] at c1
    have HV := veil hv
    clear ho hr hf hv
    by_cases hkl : k < L.length
    · have hkl' : (k : Int) < (L.length : Int) := by omega
      obtain ⟨x, hx⟩ : ∃ x, L[k]? = some x := ⟨_, List.getElem?_eq_getElem hkl⟩
      have hxM : (fillN L now k)[k]? = some x := by rw [fillN_at (Nat.le_refl _) (by omega)]; exact hx
      obtain ⟨g, cap', hv', _, _, hg, hgs, hfz, hcs⟩ := HR.out.cells (by rw [fillN_len]; omega)
      obtain ⟨y0, y1, y2, y3, y4⟩ := hcs k x hxM
      have hva : a = some ⟨g, 0, none⟩ := by rw [HV.out] at hv'; simp at hv'; exact hv'.1
      subst hva
      have HXL := veil hx
      clear hcs hfz hv'
      cases hd : dueB now x with
      | true =>
        have hdd := hd
        simp [dueB] at hdd
        obtain ⟨⟨hl, hdn⟩, hdz⟩ := hdd
        have hz : (x.d == 0) = false := by simpa using hdz
        have hdn' : (x.d : Int) ≤ (now : Int) := by omega
        rw [hz] at y4
        rw [hl] at y2
        have HFL := veil (rfill_ok HR.out k now x hxM hn)
        have HD := veil hd
        have hdl := dueN_len L now k
        clear hd
        go_wp2_with (first
          | (go_at_call 52; refine (HFL.out).mono ?_; rintro e w2 ⟨⟨u, rfl⟩, h2, h3⟩; have H2 := veil h2; have H3 := veil h3; have HO2 := veil (ownsRow_far HO.out (fun b hb => h3.block b (ownsRow_blk HO.out hb).2.1 (fun q => by have := hvw b q.symm; have := (ownsRow_blk HO.out hb).1; omega))); have hsz := h3.size; have hsz2 := HF.out.size; clear h2 h3)
          | (at_builtin; refine wpList_append_own _ rfl _ _ 40 rfl w.heap.size 3 i0 (.int .i64 0) 1 8 Try.underlying40 hi hz0 hz1 hz2 rfl (by decide) _ _ _ rfl (HO2.out.alloc _) ⟨w2.heap.size, 0, none⟩ 1 1 [.int .i64 (k : Int)] rfl rfl (cell_one_new _ _ _) (by simp [Value.oneCell']) (by unfold maxLen; omega) (by omega) (by simp; omega) ?_; intro v' w3 hown hgrow _; have HO3 := veil hown; have HG3 := veil hgrow; clear hown hgrow))
        go_roundw
        case rel =>
          have hb3 : Below w.heap.size w2 w3 := ((Below.refl w.heap.size w2).alloc (by omega) _).grown HG3.out (by simp; omega) (fun j ej => (HO2.out.lt j ej).1)
          refine ⟨k + 1, by omega, by go_num, ?_, ?_, ?_⟩
          · rw [dueN_yes HXL.out HD.out, List.length_append]
            have := HO3.out
            simpa [intsN] using this
          · rw [fillN_yes HXL.out HD.out]
            exact H2.out.kept hb3.size (hb3.block s hs) (fun b hb => hb3.block b (hvw b hb))
          · have hf2 := HF.out.trans H3.out
            exact ⟨hb3.os.trans hf2.os, hb3.tape.trans hf2.tape, hb3.output.trans hf2.output, Nat.le_trans hf2.size hb3.size, fun b hb hS => (hb3.block b hb).trans (hf2.block b hb hS)⟩
        case measure => simp [intOf]; omega
      | false =>
        have HNX : Hid (wr.ownsRow w.heap.size 3 1 u5 (dueN L now (k + 1)).length (intsN (dueN L now (k + 1))) ∧ Rep wr base s P v (fillN L now (k + 1))) := by
          unfold Hid
          rw [dueN_no HXL.out hd, fillN_no HXL.out hd]
          exact ⟨HO.out, HR.out⟩
        by_cases hdz : x.d = 0
        · have hz : (x.d == 0) = true := by simpa using hdz
          rw [hz] at y4
          clear hd
          go_wp2
          go_roundw
          case rel => exact ⟨k + 1, by omega, by go_num, HNX.out.1, HNX.out.2, HF.out⟩
          case measure => simp [intOf]; omega
        · have hz : (x.d == 0) = false := by simpa using hdz
          rw [hz] at y4
          by_cases hl : x.l = 0
          · have hdn : ¬ (x.d : Int) ≤ (now : Int) := by simp [dueB, hl, hdz] at hd; omega
            rw [hl] at y2
            clear hd
            go_wp2
            go_roundw
            case rel => exact ⟨k + 1, by omega, by go_num, HNX.out.1, HNX.out.2, HF.out⟩
            case measure => simp [intOf]; omega
          · have hl2 : ((x.l : Int) == 0) = false := by rw [natBeq]; simpa using hl
            clear hd
            go_wp2
            go_roundw
            case rel => exact ⟨k + 1, by omega, by go_num, HNX.out.1, HNX.out.2, HF.out⟩
            case measure => simp [intOf]; omega
    · have hkl' : ¬ (k : Int) < (L.length : Int) := by omega
      obtain rfl : k = L.length := by omega
      go_wp2
      go_ret
      exact ⟨_, rfl, HO.out, by rw [← fillN_all]; exact HR.out, HF.out⟩
end
end Go.Proofs.Ytblickncecpajaa
