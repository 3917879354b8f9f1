/- The document's Held, Waiters, Base. -/
import Derived.Test.YtbhkgbhgofefjaaR2
namespace Go.Proofs.Ytbhkgbhgofefjaa
open Go.RowKit
set_option linter.unusedVariables false
section
variable {w w' : World} {base s : Nat} {vb vo vw : Value} {V : List Value} {T : List Th} {L : List Lk}
theorem held_out (f : Fine T L) {t : Int} (h0 : 0 ≤ t) (h : inT T t = false) : heldOf L t = [] := by
  unfold heldOf heldTo
  rw [List.map_eq_nil_iff, List.filter_eq_nil_iff]
  intro m hm q
  simp only [beq_iff_eq, Option.map_eq_some_iff] at q
  obtain ⟨y, hy, rfl⟩ := q
  have hok := f.lk y (List.mem_of_getElem? hy)
  unfold inT at h
  simp only [decide_eq_false_iff_not] at h
  exact h ⟨h0, hok.2.1⟩
theorem heldTo_len (L : List Lk) (t : Int) (j : Nat) : (heldTo L t j).length ≤ j := by
  unfold heldTo
  rw [List.length_map]
  exact Nat.le_trans (List.length_filter_le _ _) (by simp)
theorem IL.lt' {base : Nat} {v : Value} {l : List Int} (h : IL w base v l) : ∀ k, v.ownBlock = some k → base ≤ k := fun k hk => (ownsRow_blk h hk).1
theorem rheld_neg (h : IsR w base s vb vo vw V T L) (t : Int) (h0 : t < 0) : Calls Try.prog 38 #[.pointer (some ⟨s, 0, none⟩), .int .i64 t] w fun e w' => e = .returned (.slice none 0 0) ∧ w' = w := by
  obtain ⟨ab, cb, ao, co, aw, cw, _, _, _, hv⟩ := h.rv
  have c1 := hv.c1
  have hle := hv.le.2.1
  have hl32 := h.f.l2
  have HV := veil hv
  have h0' : ¬ 0 ≤ t := by omega
  clear h hv
  go_enter Try.func38, Try.ntmps38
  go_wp2
  go_loopw [5, 6] (fun o p wr => ∃ (j : Nat), j ≤ L.length ∧ o = .slice none 0 0 ∧ p = .int .i64 j ∧ wr = w) (fun _ p _ => L.length - (intOf p).toNat)
  case atStart => exact ⟨0, by omega, rfl, rfl, rfl⟩
  case round =>
    obtain ⟨j, hj, rfl, rfl, hwr⟩ := hrel
    replace hwr := hwr.symm
    subst hwr
    by_cases hjl : j < L.length
    · have hjl' : (j : Int) < (L.length : Int) := by omega
      obtain ⟨y, hy⟩ : ∃ y, L[j]? = some y := ⟨_, List.getElem?_eq_getElem hjl⟩
      obtain ⟨g, rfl, hg, y0⟩ := HV.out.ow j y hy
      generalize y.h = z at y0
      by_cases hz : z = t
      · have hz' : (z == t) = true := by simp [hz]
        clear hy
        go_wp2
        go_roundw
        case rel => exact ⟨j + 1, by omega, rfl, by go_num, trivial⟩
        case measure => simp [intOf]; omega
      · have hz' : (z == t) = false := by simp [hz]
        clear hy
        go_wp2
        go_roundw
        case rel => exact ⟨j + 1, by omega, rfl, by go_num, trivial⟩
        case measure => simp [intOf]; omega
    · have hjl' : ¬ (j : Int) < (L.length : Int) := by omega
      go_wp2
      go_ret
      exact ⟨rfl, rfl⟩
set_option maxHeartbeats 1000000 in
theorem rheld_pos (h : IsR w base s vb vo vw V T L) (t : Int) (h0 : 0 ≤ t) : Calls Try.prog 38 #[.pointer (some ⟨s, 0, none⟩), .int .i64 t] w fun e w' => ∃ v, e = .returned v ∧ IL w' w.heap.size v (heldOf L t) ∧ Below w.heap.size w w' := by
  obtain ⟨ab, cb, ao, co, aw, cw, _, _, _, hv⟩ := h.rv
  have hs := hv.sl
  have hle := hv.le.2.1
  have hl32 := h.f.l2
  have HV := veil hv
  obtain ⟨i0, hi0, hz0, hz1, hz2⟩ := info_parts infoInt
  clear h hv
  go_enter Try.func38, Try.ntmps38
  go_wp2
  go_loopw [5, 6] (fun o p wr => ∃ (j : Nat), j ≤ L.length ∧ IL wr w.heap.size o (heldTo L t j) ∧ p = .int .i64 j ∧ Below w.heap.size w wr) (fun _ p _ => L.length - (intOf p).toNat)
  case atStart => exact ⟨0, by omega, World.ownsRow_nil _ _ _ _, rfl, Below.refl _ _⟩
  case round =>
    obtain ⟨j, hj, hil, rfl, hbe⟩ := hrel
    obtain ⟨oa, oc, rfl, _, _⟩ := form_of hil
    have c1 := (HV.out.below hbe).c1
    have HIL := veil hil
    have HBE := veil hbe
    have hll := heldTo_len L t j
    have hsz := hbe.size
    by_cases hjl : j < L.length
    · have hjl' : (j : Int) < (L.length : Int) := by omega
      obtain ⟨y, hy⟩ : ∃ y, L[j]? = some y := ⟨_, List.getElem?_eq_getElem hjl⟩
      obtain ⟨g, rfl, hg, y0⟩ := (HV.out.below hbe).ow j y hy
      by_cases hz : y.h = t
      · have HE := veil (heldTo_yes hy hz)
        have hz' : (y.h == t) = true := by simp [hz]
        clear hy hil hbe
        go_wp2_with (at_builtin; refine wpList_append_own _ rfl _ _ 31 rfl w.heap.size 3 i0 (.int .i64 0) 1 8 Try.underlying31 hi0 hz0 hz1 hz2 rfl (by decide) _ _ _ rfl (World.ownsRow.alloc HIL.out _) ⟨wr.heap.size, 0, none⟩ 1 1 [.int .i64 (j : Int)] rfl rfl (cell_one_new _ _ _) (by simp [Value.oneCell']) (by unfold maxLen; omega) (by omega) (by simp; omega) ?_; intro v' w1 hown hgrow _; have HO := veil hown; have HG := veil hgrow; clear hown hgrow)
        go_roundw
        case rel =>
          refine ⟨j + 1, by omega, ?_, by go_num, ?_⟩
          · unfold IL
            rw [HE.out, List.length_append, List.map_append]
            exact HO.out
          · exact (HBE.out.alloc HBE.out.size _).grown HG.out (by simp; omega) (fun k hk => IL.lt' HIL.out k hk)
        case measure => simp [intOf]; omega
      · have HE := veil (heldTo_no hy hz)
        have hz' : (y.h == t) = false := by simp [hz]
        clear hy hil hbe
        go_wp2
        go_roundw
        case rel => exact ⟨j + 1, by omega, by rw [HE.out]; exact HIL.out, by go_num, HBE.out⟩
        case measure => simp [intOf]; omega
    · have hjl' : ¬ (j : Int) < (L.length : Int) := by omega
      obtain rfl : j = L.length := by omega
      clear hil hbe
      go_wp2
      go_ret
      exact ⟨_, rfl, HIL.out, HBE.out⟩
theorem rheld_ok (h : IsR w base s vb vo vw V T L) (t : Int) : Calls Try.prog 38 #[.pointer (some ⟨s, 0, none⟩), .int .i64 t] w fun e w' => ∃ v, e = .returned v ∧ IL w' w.heap.size v (heldA T L t) ∧ Below w.heap.size w w' := by
  unfold heldA
  by_cases h0 : 0 ≤ t
  · refine (rheld_pos h t h0).mono ?_
    rintro e w' ⟨v, rfl, hil, hb⟩
    refine ⟨v, rfl, ?_, hb⟩
    cases ht : inT T t with
    | true => rw [if_pos rfl]; exact hil
    | false => rw [if_neg (by simp), ← held_out h.f h0 ht]; exact hil
  · have ht : inT T t = false := by unfold inT; simp; omega
    rw [ht, if_neg (by simp)]
    refine (rheld_neg h t (by omega)).mono ?_
    rintro e w' ⟨rfl, rfl⟩
    exact ⟨_, rfl, World.ownsRow_nil _ _ _ _, Below.refl _ _⟩
set_option maxHeartbeats 1000000 in
theorem rwaiters_ok (h : IsR w base s vb vo vw V T L) (m : Int) : Calls Try.prog 40 #[.pointer (some ⟨s, 0, none⟩), .int .i64 m] w fun e w' => ∃ v, e = .returned v ∧ IL w' w.heap.size v ((waitersOf L m).map (fun (t : Nat) => (t : Int))) ∧ Below w.heap.size w w' := by
  obtain ⟨ab, cb, ao, co, aw, cw, _, _, _, hv⟩ := h.rv
  have hs := hv.sl
  have c2 := hv.c2
  have hle := hv.le.2.2
  have hl32 := h.f.l2
  obtain ⟨i0, hi0, hz0, hz1, hz2⟩ := info_parts infoInt
  unfold waitersOf
  cases hm : inL L m with
  | true =>
    obtain ⟨k, y, rfl, hk, hy, e⟩ := inL_yes hm
    rw [if_pos rfl, Int.toNat_natCast, hy]
    simp only [Option.map_some, Option.getD_some]
    obtain ⟨g, rfl, hg, y0, l1, l2, hce⟩ := hv.ce k y hy
    have hk' : (k : Int) < (L.length : Int) := by omega
    obtain ⟨v, hvv⟩ := h.line hk
    have hline := h.lin k y v hy hvv
    have hsh := h.f.short (List.mem_of_getElem? hy)
    have ht2 := h.f.t2
    have el : v = .slice (lineAt V k).1 y.l.length (lineAt V k).2 := by
      obtain ⟨va, vc, rfl, _, _⟩ := form_of hline
      unfold lineAt
      rw [hvv]
    have HL : Hid ((w.alloc (.cells #[] 3)).ownsRow w.heap.size 3 1 (.slice (some ⟨w.heap.size, 0, none⟩) 0 0) 0 []) := by
      have := World.ownsRow_lit (base := w.heap.size) (e := 3) (size := 1) w #[] 0 (Nat.le_refl _) (by simp [maxLen]) rfl
      exact this
    rcases hline.2 with ⟨ev, e0⟩ | ⟨gg, vc, cur, ev, _, hgg, _⟩
    · have hl0 : y.l = [] := List.length_eq_zero_iff.1 e0
      rw [hl0]
      rw [ev] at el
      rw [hl0] at el
      have y0' := y0
      rw [hl0] at y0'
      rw [← el] at y0'
      clear hm e hce h hv hline y0 el hy hvv l1 l2 hl0 ev e0
      go_enter Try.func40, Try.ntmps40
      go_wp2
      go_ret
      exact ⟨_, rfl, HL.out, (Below.refl _ _).alloc (Nat.le_refl _) _⟩
    · have y0' := y0
      rw [← el, ev] at y0'
      have hgl := (Array.getElem?_eq_some_iff.1 hgg).1
      have HC : Hid (∀ j u, (ints y.l)[j]? = some u → (w.alloc (.cells #[] 3)).cell? ((⟨gg, 0, none⟩ : Addr).add j) = some u) := by
        intro j u hu
        have hadd : (⟨gg, 0, none⟩ : Addr).add j = ⟨gg, j, none⟩ := by unfold Addr.add; split <;> simp_all
        have hj := (List.getElem?_eq_some_iff.1 hu).1
        rw [hadd, World.cell?_alloc_lt _ _ _ (by simpa using hgl)]
        have hline' := hline
        rw [ev] at hline'
        rw [hline'.cellAt j (by simpa [ints] using hj)]
        exact hu
      have H1 := veil (ints_oneCell y.l)
      have hil : (ints y.l).length = y.l.length * 1 := by simp [ints]
      clear hm e hce h hv hline y0 el hy hvv l1 l2
      go_enter Try.func40, Try.ntmps40
      go_wp2_with (at_builtin; refine wpList_append_own _ rfl _ _ 31 rfl w.heap.size 3 i0 (.int .i64 0) 1 8 Try.underlying31 hi0 hz0 hz1 hz2 rfl (by omega) _ 0 [] (by rfl) HL.out ⟨gg, 0, none⟩ y.l.length vc (ints y.l) (by rfl) hil HC.out H1.out (by unfold maxLen; omega) (by omega) (by simp) ?_; intro v' w1 hown hgrow _; have HO := veil hown; have HG := veil (hgrow : World.grownBy _ _ (Value.slice (some ⟨w.heap.size, 0, none⟩) 0 0).ownBlock); clear hown hgrow)
      go_ret
      refine ⟨v', rfl, ?_, ((Below.refl _ _).alloc (Nat.le_refl _) _).grown HG.out (by simp) (fun k hk => by simp [Value.ownBlock] at hk; omega)⟩
      unfold IL
      rw [← ints_eq, List.length_map]
      simpa using HO.out
  | false =>
    rw [if_neg (by simp)]
    unfold inL at hm
    simp only [decide_eq_false_iff_not] at hm
    by_cases h0 : m < 0
    · clear h hv hm
      go_enter Try.func40, Try.ntmps40
      go_wp2
      go_ret
      exact ⟨_, rfl, World.ownsRow_nil _ _ _ _, Below.refl _ _⟩
    · have h1 : (L.length : Int) ≤ m := by omega
      clear h hv hm
      go_enter Try.func40, Try.ntmps40
      go_wp2
      go_ret
      exact ⟨_, rfl, World.ownsRow_nil _ _ _ _, Below.refl _ _⟩
end
end Go.Proofs.Ytbhkgbhgofefjaa
