/- The walk of Next. -/
import Derived.Test.YtjmbadadelelfaaWb6
import Derived.Deep.MidRow
namespace Go.Proofs.Ytjmbadadelelfaa
open Go.RowKit
set_option linter.unusedVariables false
set_option linter.unusedSimpArgs false
attribute [local go_sem ↓] Go.wp_at_zero Go.wp_at_succ
/-- The cells of the slots. -/
def slotRow (F L : Nat → Nat) : List Value := (List.range 128).map (fun j => if j % 2 = 0 then Value.int .i64 (F (j / 2) : Int) else .int .i64 (L (j / 2) : Int))
theorem slotRow_len (F L : Nat → Nat) : (slotRow F L).length = 128 := by simp [slotRow]
theorem slotRow_F (F L : Nat → Nat) (i : Nat) (h : i < 64) : (slotRow F L)[i * 2]? = some (.int .i64 (F i : Int)) := by
  unfold slotRow
  rw [List.getElem?_map, List.getElem?_range (by omega)]
  simp
theorem slotRow_L (F L : Nat → Nat) (i : Nat) (h : i < 64) : (slotRow F L)[i * 2 + 1]? = some (.int .i64 (L i : Int)) := by
  unfold slotRow
  rw [List.getElem?_map, List.getElem?_range (by omega)]
  simp
  rw [show (i * 2 + 1) / 2 = i by omega]
theorem slots_range {w : World} {b g n nw ct : Nat} {fm : Value} {F L A B E : Nat → Nat} {T : Nat → Bool} (h : Rep w b g n nw ct fm F L A B E T) : w.rangeAt b 1 (slotRow F L) := by
  intro j v hv
  have hj : j < 128 := by have := (List.getElem?_eq_some_iff.1 hv).1; rwa [slotRow_len] at this
  rw [← hv]
  by_cases e : j % 2 = 0
  · obtain ⟨i, rfl⟩ : ∃ i, j = i * 2 := ⟨j / 2, by omega⟩
    rw [slotRow_F F L i (by omega)]; exact h.sf i (by omega)
  · obtain ⟨i, rfl⟩ : ∃ i, j = i * 2 + 1 := ⟨j / 2, by omega⟩
    rw [slotRow_L F L i (by omega), show 1 + (i * 2 + 1) = 1 + i * 2 + 1 by omega]; exact h.sl i (by omega)
theorem infoSlots : (Try.prog.info? 70).map (·.size) = some 128 := by kernel_rfl
theorem sizeList (w : World) : (sizeOf 69).run Try.prog w = .ok 2 w := by kernel_rfl
theorem aggList (w : World) : (isAgg 69).run Try.prog w = .ok true w := by kernel_rfl
theorem slot_index (F L : Nat → Nat) (j : Nat) (h : j < 64) (w : World) : (Instr.index 70 (.agg (slotRow F L).toArray) (.int .i64 (j : Int))).run Try.prog w = .ok (.agg #[.int .i64 (F j : Int), .int .i64 (L j : Int)]) w := by
  have h1 := slotRow_F F L j h
  have h2 := slotRow_L F L j h
  have hl := slotRow_len F L
  have hj : (0 : Int) ≤ (j : Int) ∧ (j : Int) < 64 := by omega
  have he : (slotRow F L).toArray.extract (j * 2) (j * 2 + 2) = #[.int .i64 (F j : Int), .int .i64 (L j : Int)] := by
    apply Array.ext_getElem?
    intro i
    by_cases q0 : i = 0
    · subst q0; simp [Array.getElem?_extract, h1, hl]
    · by_cases q1 : i = 1
      · subst q1; simp [Array.getElem?_extract, h2, hl]
      · rw [Array.getElem?_eq_none (by simp [hl]; omega), Array.getElem?_eq_none (by simp; omega)]
  generalize slotRow F L = R at *
  simp [Instr.index, run_underlying Try.underlying70, asIntOf, sizeList, aggList, part]
  rw [if_pos h]
  simp at he
  rw [he]
def nxT (S : List It) : Nat := match S with | [] => 0 | x :: _ => x.t
def nxB (S : List It) : Bool := match S with | [] => false | _ :: _ => true
section
variable {w : World} {b g mb n nw ct s : Nat} {F L A B E : Nat → Nat} {T : Nat → Bool} {fr : Int → Option (Nat × Nat)} {S : List It} {x : It}
theorem head_le (h : Srt (x :: S)) : ∀ y ∈ x :: S, x.t ≤ y.t := fun y hy => by
  rcases List.mem_cons.1 hy with rfl | hy
  · exact Nat.le_refl _
  · exact (List.pairwise_cons.1 h).1 y hy
/-- The first slot that has somebody has the first of all at its head. -/
theorem Inv.first (hi : Inv n nw ct F L fr A B E T (x :: S)) (j : Nat) (hj : j < 64) (h0 : ∀ i, i < j → F i = 0) (hne : F j ≠ 0) : F j = x.i + 1 ∧ E (F j) = x.t := by
  have hsl := hi.slot j hj
  have hgne : grp nw (x :: S) (nw / 64 * 64 + j) ≠ [] := fun e => hne (by rw [hsl.f, e]; rfl)
  obtain ⟨y, hy⟩ := List.exists_mem_of_ne_nil _ hgne
  obtain ⟨hy1, hy2⟩ := mem_grp.1 hy
  have hle := head_le hi.srt y hy1
  have hkx : ky nw x ≤ nw / 64 * 64 + j := by unfold ky at *; omega
  have hkx2 : nw ≤ ky nw x := by unfold ky; omega
  obtain ⟨i, hi'⟩ : ∃ i, ky nw x = nw / 64 * 64 + i := ⟨ky nw x - nw / 64 * 64, by omega⟩
  have hij : i = j := by
    apply Classical.byContradiction
    intro hc
    have hlt : i < j := by omega
    have hsi := (hi.slot i (by omega)).f
    rw [h0 i hlt] at hsi
    have e := head_zero (xs := spots (grp nw (x :: S) (nw / 64 * 64 + i))) spots_ne0 hsi.symm
    have hm : x ∈ grp nw (x :: S) (nw / 64 * 64 + i) := mem_grp.2 ⟨by simp, hi'⟩
    have : x.i + 1 ∈ spots (grp nw (x :: S) (nw / 64 * 64 + i)) := mem_spots.2 ⟨x, hm, rfl⟩
    rw [e] at this
    cases this
  subst hij
  have hg : grp nw (x :: S) (nw / 64 * 64 + i) = x :: S.filter (fun y => ky nw y == nw / 64 * 64 + i) := by
    unfold grp
    rw [List.filter_cons, if_pos (by simp [hi'])]
  have hF : F i = x.i + 1 := by rw [hsl.f, hg]; rfl
  exact ⟨hF, by rw [hF]; exact (hi.ent x (by simp)).2⟩
/-- No slot has anybody: the first of all stands in the map, and nobody there is ahead of it. -/
theorem Inv.firstFar (hi : Inv n nw ct F L fr A B E T (x :: S)) (h0 : ∀ i, i < 64 → F i = 0) : (fr (x.t : Int)).isSome = true ∧ ∀ k : Nat, (fr (k : Int)).isSome = true → x.t ≤ k := by
  have hkx2 : nw ≤ ky nw x := by unfold ky; omega
  have hfar : nw / 64 < ky nw x / 64 := by
    apply Classical.byContradiction
    intro hc
    obtain ⟨i, hi'⟩ : ∃ i, ky nw x = nw / 64 * 64 + i := ⟨ky nw x - nw / 64 * 64, by omega⟩
    have hsi := (hi.slot i (by omega)).f
    rw [h0 i (by omega)] at hsi
    have e := head_zero (xs := spots (grp nw (x :: S) (nw / 64 * 64 + i))) spots_ne0 hsi.symm
    have hm : x ∈ grp nw (x :: S) (nw / 64 * 64 + i) := mem_grp.2 ⟨by simp, hi'⟩
    have : x.i + 1 ∈ spots (grp nw (x :: S) (nw / 64 * 64 + i)) := mem_spots.2 ⟨x, hm, rfl⟩
    rw [e] at this
    cases this
  have hkt : ky nw x = x.t := by unfold ky at *; omega
  refine ⟨?_, fun k hk => ?_⟩
  · rw [← hkt]
    rcases hi.far (ky nw x) hfar with ⟨_, e2⟩ | ⟨f, l, e1, _⟩
    · have : x ∈ grp nw (x :: S) (ky nw x) := mem_grp.2 ⟨by simp, rfl⟩
      rw [e2] at this
      cases this
    · rw [e1]; rfl
  · obtain ⟨k', e, hk'⟩ := hi.out _ hk
    obtain rfl : k = k' := by omega
    rcases hi.far k hk' with ⟨e, _⟩ | ⟨f, l, _, e, _⟩
    · rw [e] at hk; cases hk
    · obtain ⟨y, hy⟩ := List.exists_mem_of_ne_nil _ e
      obtain ⟨h3, h4⟩ := mem_grp.1 hy
      have := head_le hi.srt y h3
      unfold ky at *
      omega
set_option maxRecDepth 100000 in
set_option maxHeartbeats 4000000 in
theorem next_ok (h : IsW w b g mb n nw S) :
    Calls Try.prog 19 #[.pointer (some ⟨b, 0, none⟩)] w fun e w' => e = .returned (.tuple #[.int .u64 (nxT S : Int), .bool (nxB S)]) ∧ Below w.heap.size w w' := by
  have HLn := veil (len_ok h)
  obtain ⟨ct, F, L, fr, A, B, E, T, s, hr, hm, hi, hbm, hgm, hn⟩ := h
  match S, hi, HLn with
  | [], hi, HLn =>
    have HLn : Hid (Calls Try.prog 15 #[.pointer (some ⟨b, 0, none⟩)] w fun e w' => e = .returned (.int .i64 0) ∧ w' = w) := HLn.out
    clear hr hm hi
    go_enter Try.func19, Try.ntmps19
    go_wp2_with (first
      | (go_at_call 15; refine (HLn.out).mono ?_; rintro e w1 ⟨rfl, hw⟩; replace hw := hw.symm; subst hw))
    go_ret2
    exact ⟨rfl, Below.refl _ _⟩
  | x :: S, hi, HLn =>
    have hlen1 : ¬ ((x :: S).length : Int) = 0 := by simp; omega
    obtain ⟨N, hN⟩ : ∃ N : Nat, (x :: S).length = N := ⟨_, rfl⟩
    rw [hN] at HLn hlen1
    have HRange := veil (slots_range hr)
    have HU := veil Try.underlying70
    have HI := veil infoSlots
    have HSL := veil (slotRow_len F L)
    have HIX := veil (fun j hj => slot_index F L j hj)
    have e0 := hr.tm
    have hbb := hr.lt_b
    have hgg := hr.lt_g
    have HR := veil hr
    have HF1 := veil (fun j hj => hi.first j hj)
    have HF2 := veil hi.firstFar
    have hxn : x.i + 1 ≤ n := hi.lt x (by simp)
    obtain ⟨D, hD, hD1, hD2, hD3⟩ := hm
    have HD := veil hD
    have HD1 := veil hD1
    have hxt : x.t < 18446744073709551616 := hi.tm x (by simp)
    have hmlt := hD.lt
    show Calls _ _ _ _ (fun e w' => e = .returned (.tuple #[.int .u64 (x.t : Int), .bool true]) ∧ Below w.heap.size w w')
    generalize slotRow F L = row at *
    clear hr hi hN hD hD1 hD2 hD3
    go_enter Try.func19, Try.ntmps19
    go_wp2_with (first
      | (go_at_call 15; refine (HLn.out).mono ?_; rintro e w1 ⟨rfl, hw⟩; replace hw := hw.symm; subst hw)
      | (refine wpList_load_mid rfl 70 _ rfl b 1 (by rfl) row _ HRange.out HU.out rfl (by rw [HSL.out]; exact HI.out) ?_))
    go_loopw [15] (fun i wr => ∃ j : Nat, j ≤ 64 ∧ i = .int .i64 (j : Int) ∧ Below w.heap.size w wr ∧ ∀ i, i < j → F i = 0) (fun i _ => 64 - (intOf i).toNat)
    case atStart => exact ⟨0, by omega, rfl, Below.refl _ _, fun i hi => by omega⟩
    case round =>
      obtain ⟨j, hj, rfl, hbel, hz⟩ := hrel
      have HB := veil hbel
      have HZ := veil hz
      have hsz := hbel.size
      by_cases hj64 : j < 64
      · have hix := HIX.out j hj64
        have hj' : (j : Int) < 64 := by omega
        by_cases hf : F j = 0
        · rw [hf] at hix
          have hix' : ∀ W, (Instr.index 70 (.agg row.toArray) (.int .i64 (j : Int))).run Try.prog W = .ok (.agg #[.int .i64 0, .int .i64 (L j : Int)]) W := hix
          have HZ1 : Hid (∀ i, i < j + 1 → F i = 0) := fun i hi => by
            rcases Nat.lt_or_ge i j with q | q
            · exact hz i q
            · obtain rfl : i = j := by omega
              exact hf
          clear hbel hz hix HIX HF1 HF2 HRange hf
          go_wp2
          go_roundw
          case rel => exact ⟨j + 1, by omega, by go_num, HB.out.alloc HB.out.size _, HZ1.out⟩
          case measure => simp [intOf]; omega
        · obtain ⟨f1, f2⟩ := HF1.out j hj64 hz hf
          have hr1 := HR.out.below hbel
          have c2 := hr1.ee (F j) (by omega)
          obtain ⟨cp, en⟩ := hr1.en
          rw [f2] at c2
          have hfn : F j < n + 1 := by omega
          have hf' : ¬ (F j : Int) = 0 := by omega
          have y1 : b < wr.heap.size := by omega
          have y2 : g < wr.heap.size := by omega
          clear hbel hz HIX HF1 HF2 HRange hr1 f1 f2
          generalize F j = fj at *
          generalize L j = lj at *
          go_wp2
          go_region
          go_wp2
          go_ret2
          exact ⟨rfl, (HB.out.alloc HB.out.size _).drew⟩
      · have hj' : ¬ (j : Int) < 64 := by omega
        obtain ⟨hx1, hx2⟩ := HF2.out (fun i hi => hz i (by omega))
        have e1 := (HR.out.below hbel).tm
        have HD2 := veil (HD.out.kept (w' := wr) (row := none) ⟨hbel.os, hbel.tape, hbel.output, hbel.size, fun k hk _ => hbel.block k hk⟩ (by simp))
        have HX1 := veil hx1
        have HX2 := veil hx2
        clear hbel hz HIX HF1 HF2 HRange hx1 hx2 HD
        go_wp2_with (first | (at_range; refine wpList_range_own _ rfl _ 71 rfl 30 69 keyU Try.underlying71 RL mb s D rfl HD2.out ?_; intro w0 hrg0 hg0 hs0; have HRG := veil hrg0; have HG0 := veil hg0; clear hrg0 hg0 hs0))
        (try go_frame)
        obtain ⟨q, hq⟩ : ∃ q, wr.heap.size = q := ⟨_, rfl⟩
        have hqw : w.heap.size ≤ q := by omega
        have HB0 : Hid (Below w.heap.size w w0) := HB.out.grown HG0.out HB.out.size (fun k hk => by cases hk)
        rw [hq] at HRG ⊢
        clear hq HG0 HB HD2
        go_loopw [6] (fun v wz => ∃ (m : Nat) (left : Lit → Bool) (cnt : Nat), v = .int .u64 (m : Int) ∧ wz.ranges Try.prog 30 RL mb q s D left cnt ∧ Below w.heap.size w wz ∧ m < 18446744073709551616 ∧ x.t ≤ m ∧ (∀ k : Nat, k < 18446744073709551616 → (fr (k : Int)).isSome = true → left (.int .u64 (k : Int)) = false → m ≤ k)) (fun _ wz => wz.rangeLeft mb q)
        case atStart =>
          refine ⟨18446744073709551615, _, _, rfl, HRG.out, HB0.out, by omega, by omega, fun k hk hs hl => ?_⟩
          rw [HD1.out, hs] at hl
          cases hl
        case round =>
          obtain ⟨m, left, cnt, rfl, hrg, hbel, hm64, hxm, hmin⟩ := hrel
          have HRGr := veil hrg
          have HB := veil hbel
          have HMIN := veil hmin
          clear hrg hbel hmin HRG HB0
          go_wp2_with (first | (at_next; refine wpList_next_m _ rfl _ rfl mb q s D left cnt rfl HRGr.out ?_ ?_))
          · intro hc0 hl0
            have hmx : m = x.t := by
              have := HMIN.out x.t hxt HX1.out (hl0 _)
              omega
            subst hmx
            go_wp2
            go_ret2
            exact ⟨rfl, HB.out⟩
          · intro k f l w1 cnt1 hk64 hlk hhas hrg1 hlt1 hg1 hs1 hen
            have hb1 : Below w.heap.size w w1 := HB.out.grown hg1 HB.out.size (fun j hj => by injection hj with hj; omega)
            have hisS : (fr (k : Int)).isSome = true := by rw [← HD1.out]; exact hhas
            have hxk := HX2.out k hisS
            have HB1 := veil hb1
            have HRG1 := veil hrg1
            have HLT := veil hlt1
            clear hb1 hrg1 hlt1 hg1 hlk hhas hs1
            obtain ⟨m', hm'⟩ : ∃ m', min m k = m' := ⟨_, rfl⟩
            have hmi : (if k < m then (k : Int) else (m : Int)) = (m' : Int) := by split <;> omega
            have hmi2 : min (m : Int) (k : Int) = (m' : Int) := by omega
            go_wp2
            go_roundw
            case rel =>
              refine ⟨m', _, cnt1, rfl, HRG1.out, HB1.out, by omega, by omega, fun i hi64 his hil => ?_⟩
              simp only [same_u64, Bool.and_eq_false_iff, Bool.not_eq_false', decide_eq_true_eq] at hil
              rcases hil with q | q
              · have := HMIN.out i hi64 his q
                omega
              · omega
            case measure => rw [HRG1.out.left_eq, HRGr.out.left_eq]; exact HLT.out
end
end Go.Proofs.Ytjmbadadelelfaa
