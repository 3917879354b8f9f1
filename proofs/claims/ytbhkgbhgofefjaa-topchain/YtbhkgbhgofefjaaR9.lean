/- The document's Unlock: what is refused; who comes next. -/
import Derived.Test.YtbhkgbhgofefjaaR8
namespace Go.Proofs.Ytbhkgbhgofefjaa
open Go.RowKit
set_option linter.unusedVariables false
theorem wrap_succ (k : Nat) (h : k ≤ 1024) : IntKind.i64.wrap ((k : Int) + 1) = ((k + 1 : Nat) : Int) := by
  simp [IntKind.wrap, IntKind.bits, IntKind.signed]
  omega

section
variable {w w' : World} {base s : Nat} {vb vo vw : Value} {V : List Value} {T : List Th} {L : List Lk}
theorem runlock_may (h : IsR w base s vb vo vw V T L) (t m : Int) (he : mayE T L t m ≠ 0) : Calls Try.prog 56 #[.pointer (some ⟨s, 0, none⟩), .int .i64 t, .int .i64 m] w fun e w' => e = .returned (.tuple #[.int .i64 (-1), .int .i64 (mayE T L t m)]) ∧ w' = w := by
  have HT := veil (there_ok h t m)
  have HW := veil (rwaits_ok h t)
  have hge := waits_ge h.f t
  rcases may_ways T L t m with ⟨e1, e2⟩ | ⟨e1, ⟨e2, e3⟩ | ⟨e2, e3⟩⟩
  · rw [e2]
    rw [e1] at HT
    clear h he HW hge
    go_enter Try.func56, Try.ntmps56
    go_wp2_with (go_at_call 62; refine (HT.out).mono ?_; rintro e w1 ⟨rfl, hw⟩; replace hw := hw.symm; subst hw)
    simp [bodyPost, results, Try.results56, go_sem]
  · exact absurd e3 he
  · rw [e3]
    rw [e1] at HT
    have hp := hge e2
    generalize waitsOf T t = z at HW hp
    clear h he hge e2
    go_enter Try.func56, Try.ntmps56
    go_wp2_with (first
      | (go_at_call 62; refine (HT.out).mono ?_; rintro e w1 ⟨rfl, hw⟩; replace hw := hw.symm; subst hw)
      | (go_at_call 36; refine (HW.out).mono ?_; rintro e w1 ⟨rfl, hw⟩; replace hw := hw.symm; subst hw))
    simp [bodyPost, results, Try.results56, go_sem]
theorem runlock_other (h : IsR w base s vb vo vw V T L) (i j : Nat) (he : mayE T L i j = 0) (y : Lk) (hy : L[j]? = some y) (ho : y.h ≠ (i : Int)) : Calls Try.prog 56 #[.pointer (some ⟨s, 0, none⟩), .int .i64 (i : Int), .int .i64 (j : Int)] w fun e w' => e = .returned (.tuple #[.int .i64 (-1), .int .i64 9]) ∧ w' = w := by
  obtain ⟨ht, hw⟩ := rmay_yes h he
  have HT := veil ht
  have HW := veil hw
  have hj := (List.getElem?_eq_some_iff.1 hy).1
  have hj' : (j : Int) < (L.length : Int) := by omega
  obtain ⟨ab, cb, ao, co, aw, cw, _, _, _, hv⟩ := h.rv
  obtain ⟨go, rfl, hgo, o0⟩ := hv.ow j y hy
  generalize y.h = z at o0 ho
  have c1 := hv.c1
  have hle := hv.le.2.1
  clear h hv ht hw he
  go_enter Try.func56, Try.ntmps56
  go_wp2_with (first
    | (go_at_call 62; refine (HT.out).mono ?_; rintro e w1 ⟨rfl, hw⟩; replace hw := hw.symm; subst hw)
    | (go_at_call 36; refine (HW.out).mono ?_; rintro e w1 ⟨rfl, hw⟩; replace hw := hw.symm; subst hw))
  simp [bodyPost, results, Try.results56, go_sem]
/-- Unlock of a lock that one holds. -/
def UnlEnd (w : World) (base s : Nat) (vb vo vw : Value) (V : List Value) (T : List Th) (L : List Lk) (j : Nat) (y : Lk) (P : Int) (e : Ending) (w' : World) : Prop :=
  (P = -1 ∧ y.l = [] ∧ e = .returned (.tuple #[.int .i64 (-1), .int .i64 0]) ∧ MovedR w w' base s vb vo vw V T (L.set j ⟨-1, y.l⟩)) ∨
  ∃ (p q : Nat) (z : Th), P = (p : Int) ∧ y.l[p]? = some q ∧ T[q]? = some z ∧ e = .returned (.tuple #[.int .i64 (q : Int), .int .i64 0]) ∧ MovedR w w' base s vb vo vw V (T.set q ⟨z.k, -1⟩) (L.set j ⟨(q : Int), y.l.eraseIdx p⟩)
set_option maxRecDepth 100000 in
set_option maxHeartbeats 2000000 in
theorem runlock_own (h : IsR w base s vb vo vw V T L) (i j : Nat) (he : mayE T L i j = 0) (y : Lk) (hy : L[j]? = some y) (ho : y.h = (i : Int)) : Calls Try.prog 56 #[.pointer (some ⟨s, 0, none⟩), .int .i64 (i : Int), .int .i64 (j : Int)] w (UnlEnd w base s vb vo vw V T L j y (foreTo (keyOf T L) y.l y.l.length).1) := by
  obtain ⟨ht, hw⟩ := rmay_yes h he
  have HT := veil ht
  have HW := veil hw
  have hj := (List.getElem?_eq_some_iff.1 hy).1
  have hj' : (j : Int) < (L.length : Int) := by omega
  obtain ⟨ab, cb, ao, co, aw, cw, rfl, rfl, rfl, hv⟩ := h.rv
  obtain ⟨go, rfl, hgo, o0⟩ := hv.ow j y hy
  rw [ho] at o0
  obtain ⟨gw, rfl, hgw, y0, l1, l2, hce⟩ := hv.ce j y hy
  have c1 := hv.c1
  have c2 := hv.c2
  have hle := hv.le
  have ls := hv.sl
  have hsh := h.f.short (List.mem_of_getElem? hy)
  have ht2 := h.f.t2
  have hmem := (h.f.lk y (List.mem_of_getElem? hy)).2.2.1
  obtain ⟨i0, hi0, hz0, hz1, hz2⟩ := info_parts infoInt
  have HK := veil (fun (q : Nat) (W : World) (hb : Below w.heap.size w W) => rkey_ok (h.below hb) (q : Int))
  have HCE := veil hce
  have HH := veil h
  have HY := veil hy
  have HO := veil ho
  have HM := veil hmem
  have hlv : Hid (lineAt V j = ((lineAt V j).1, (lineAt V j).2)) := rfl
  generalize (lineAt V j).1 = va at y0 HCE hlv
  generalize (lineAt V j).2 = vc at y0 l1 l2 hlv
  clear h hv ht hw he hy ho hce hmem
  go_enter Try.func56, Try.ntmps56
  go_wp2_with (first
    | (go_at_call 62; refine (HT.out).mono ?_; rintro e w1 ⟨rfl, hw⟩; replace hw := hw.symm; subst hw)
    | (go_at_call 36; refine (HW.out).mono ?_; rintro e w1 ⟨rfl, hw⟩; replace hw := hw.symm; subst hw))
  clear HT HW
  go_loopw [9, 10] (fun av iv wr => ∃ (n : Nat), n ≤ y.l.length ∧ iv = .int .i64 n ∧ av = .int .i64 (foreTo (keyOf T L) y.l n).1 ∧ Below w.heap.size w wr) (fun _ iv _ => y.l.length - (intOf iv).toNat)
  case atStart => exact ⟨0, by omega, rfl, rfl, Below.refl _ _⟩
  case round =>
    obtain ⟨n, hn, rfl, rfl, hbe⟩ := hrel
    have HBE := veil hbe
    by_cases hnl : n < y.l.length
    · have hnl' : (n : Int) < (y.l.length : Int) := by omega
      obtain ⟨q, hq⟩ : ∃ q, y.l[n]? = some q := ⟨_, List.getElem?_eq_getElem hnl⟩
      obtain ⟨gg, rfl, hgg, q0'⟩ := HCE.out n q hq
      have q0 := (hbe.cell (p := ⟨gg, n, none⟩) hgg).trans q0'
      have hql := HM.out q (List.mem_of_getElem? hq)
      have ekq : keyA T L (q : Int) = keyOf T L q := by unfold keyA; rw [if_pos (by unfold inT; simp; omega), Int.toNat_natCast]
      have enext : Hid (foreTo (keyOf T L) y.l (n + 1) = if (foreTo (keyOf T L) y.l n).1 = -1 ∨ up (keyOf T L q) (foreTo (keyOf T L) y.l n).2 = true then ((n : Int), keyOf T L q) else foreTo (keyOf T L) y.l n) := by
        show _ = _
        rw [foreTo, hq, Option.getD_some]
      have HI := veil (show n + 1 ≤ y.l.length from hnl)
      by_cases hzn : n = 0
      · subst hzn
        have e0 : (foreTo (keyOf T L) y.l 0).1 = -1 := rfl
        rw [e0]
        rw [if_pos (.inl e0)] at enext
        clear q0' hbe hq
        go_wp2
        refine wp_region_held_drew (S := (fun w' => True)) (by kernel_rfl) trivial (fun hHeld => ?_)
        refine wpAnyH_take (i := 0) (v := ?_) rfl (by kernel_rfl) (by kernel_rfl) (by kernel_rfl) (fun _ _ _ h => h) (Or.inl ⟨by rfl, ?v0⟩) (by assumption) ?_
        case v0 => (intro w hSw; (try dsimp only at hSw); go_simp; try with_reducible rfl)
        try simp only [Act.put, List.setIfInBounds_toArray, List.set_cons_zero, List.set_cons_succ, List.getElem_toArray, List.getElem_cons_zero]
        refine wpAnyH_take (i := 1) (v := ?_) rfl (by kernel_rfl) (by kernel_rfl) (by kernel_rfl) (fun _ _ _ h => h) (Or.inl ⟨by rfl, ?v1⟩) (by assumption) ?_
        case v1 => (intro w hSw; (try dsimp only at hSw); go_simp; try with_reducible rfl)
        try simp only [Act.put, List.setIfInBounds_toArray, List.set_cons_zero, List.set_cons_succ, List.getElem_toArray, List.getElem_cons_succ, List.getElem_cons_zero]
        refine wpAnyH_take (i := 2) (v := ?_) rfl (by kernel_rfl) (by kernel_rfl) (by kernel_rfl) (fun _ _ _ h => h) (Or.inl ⟨by rfl, ?v2⟩) (by assumption) ?_
        case v2 => (intro w hSw; (try dsimp only at hSw); go_simp; try with_reducible rfl)
        try simp only [Act.put, List.setIfInBounds_toArray, List.set_cons_zero, List.set_cons_succ, List.getElem_toArray, List.getElem_cons_succ, List.getElem_cons_zero]
        refine wpAnyH_take (i := 3) (v := undef) rfl (by kernel_rfl) (by kernel_rfl) (by kernel_rfl) (fun _ _ _ h => h) (Or.inr ⟨by rfl, rfl⟩) (by assumption) ?_
        try simp only [Act.put, List.setIfInBounds_toArray, List.set_cons_zero, List.set_cons_succ, List.getElem_toArray, List.getElem_cons_succ, List.getElem_cons_zero]
        refine wpAnyH_take (i := 4) (v := undef) rfl (by kernel_rfl) (by kernel_rfl) (by kernel_rfl) (fun _ _ _ h => h) (Or.inr ⟨by rfl, rfl⟩) (by assumption) ?_
        try simp only [Act.put, List.setIfInBounds_toArray, List.set_cons_zero, List.set_cons_succ, List.getElem_toArray, List.getElem_cons_succ, List.getElem_cons_zero]
        refine wpAnyH_take (i := 5) (v := undef) rfl (by kernel_rfl) (by kernel_rfl) (by kernel_rfl) (fun _ _ _ h => h) (Or.inr ⟨by rfl, rfl⟩) (by assumption) ?_
        try simp only [Act.put, List.setIfInBounds_toArray, List.set_cons_zero, List.set_cons_succ, List.getElem_toArray, List.getElem_cons_succ, List.getElem_cons_zero]
        refine wpAnyH_take (i := 6) (v := undef) rfl (by kernel_rfl) (by kernel_rfl) (by kernel_rfl) (fun _ _ _ h => h) (Or.inr ⟨by rfl, rfl⟩) (by assumption) ?_
        try simp only [Act.put, List.setIfInBounds_toArray, List.set_cons_zero, List.set_cons_succ, List.getElem_toArray, List.getElem_cons_succ, List.getElem_cons_zero]
        refine wpAnyH_take (i := 7) (v := undef) rfl (by kernel_rfl) (by kernel_rfl) (by kernel_rfl) (fun _ _ _ h => h) (Or.inr ⟨by rfl, rfl⟩) (by assumption) ?_
        try simp only [Act.put, List.setIfInBounds_toArray, List.set_cons_zero, List.set_cons_succ, List.getElem_toArray, List.getElem_cons_succ, List.getElem_cons_zero]
        refine wpAnyH_take (i := 8) (v := undef) rfl (by kernel_rfl) (by kernel_rfl) (by kernel_rfl) (fun _ _ _ h => h) (Or.inr ⟨by rfl, rfl⟩) (by assumption) ?_
        try simp only [Act.put, List.setIfInBounds_toArray, List.set_cons_zero, List.set_cons_succ, List.getElem_toArray, List.getElem_cons_succ, List.getElem_cons_zero]
        refine wpAnyH_take (i := 9) (v := undef) rfl (by kernel_rfl) (by kernel_rfl) (by kernel_rfl) (fun _ _ _ h => h) (Or.inr ⟨by rfl, rfl⟩) (by assumption) ?_
        try simp only [Act.put, List.setIfInBounds_toArray, List.set_cons_zero, List.set_cons_succ, List.getElem_toArray, List.getElem_cons_succ, List.getElem_cons_zero]
        refine wpAnyH_take (i := 10) (v := undef) rfl (by kernel_rfl) (by kernel_rfl) (by kernel_rfl) (fun _ _ _ h => h) (Or.inr ⟨by rfl, rfl⟩) (by assumption) ?_
        try simp only [Act.put, List.setIfInBounds_toArray, List.set_cons_zero, List.set_cons_succ, List.getElem_toArray, List.getElem_cons_succ, List.getElem_cons_zero]
        refine wpAnyH_take (i := 11) (v := undef) rfl (by kernel_rfl) (by kernel_rfl) (by kernel_rfl) (fun _ _ _ h => h) (Or.inr ⟨by rfl, rfl⟩) (by assumption) ?_
        try simp only [Act.put, List.setIfInBounds_toArray, List.set_cons_zero, List.set_cons_succ, List.getElem_toArray, List.getElem_cons_succ, List.getElem_cons_zero]
        refine wpAnyH_take (i := 12) (v := undef) rfl (by kernel_rfl) (by kernel_rfl) (by kernel_rfl) (fun _ _ _ h => h) (Or.inr ⟨by rfl, rfl⟩) (by assumption) ?_
        try simp only [Act.put, List.setIfInBounds_toArray, List.set_cons_zero, List.set_cons_succ, List.getElem_toArray, List.getElem_cons_succ, List.getElem_cons_zero]
        refine wpAnyH_take (i := 13) (v := undef) rfl (by kernel_rfl) (by kernel_rfl) (by kernel_rfl) (fun _ _ _ h => h) (Or.inr ⟨by rfl, rfl⟩) (by assumption) ?_
        try simp only [Act.put, List.setIfInBounds_toArray, List.set_cons_zero, List.set_cons_succ, List.getElem_toArray, List.getElem_cons_succ, List.getElem_cons_zero]
        refine wpAnyH_take (i := 14) (v := undef) rfl (by kernel_rfl) (by kernel_rfl) (by kernel_rfl) (fun _ _ _ h => h) (Or.inr ⟨by rfl, rfl⟩) (by assumption) ?_
        try simp only [Act.put, List.setIfInBounds_toArray, List.set_cons_zero, List.set_cons_succ, List.getElem_toArray, List.getElem_cons_succ, List.getElem_cons_zero]
        refine wpAnyH_take (i := 15) (v := undef) rfl (by kernel_rfl) (by kernel_rfl) (by kernel_rfl) (fun _ _ _ h => h) (Or.inr ⟨by rfl, rfl⟩) (by assumption) ?_
        try simp only [Act.put, List.setIfInBounds_toArray, List.set_cons_zero, List.set_cons_succ, List.getElem_toArray, List.getElem_cons_succ, List.getElem_cons_zero]
        refine wpAnyH_take (i := 16) (v := ?_) rfl (by kernel_rfl) (by kernel_rfl) (by kernel_rfl) (fun _ _ _ h => h) (Or.inl ⟨by rfl, ?v16⟩) (by assumption) ?_
        case v16 => (intro w hSw; (try dsimp only at hSw); go_simp; try with_reducible rfl)
        try simp only [Act.put, List.setIfInBounds_toArray, List.set_cons_zero, List.set_cons_succ, List.getElem_toArray, List.getElem_cons_succ, List.getElem_cons_zero]
        refine wpAnyH_done (by kernel_rfl) ?_ _
        skip
        go_wp2
        go_roundw
        case rel => exact ⟨0 + 1, HI.out, by go_num, by rw [enext.out], HBE.out.drew⟩
        case measure => simp [intOf]; omega
      · obtain ⟨p, hp, e1, e2⟩ := foreTo_some (keyOf T L) y.l n (by omega) (by omega)
        rw [e1]
        rw [e1, e2] at enext
        have hpl : p < y.l.length := by omega
        have hpl' : (p : Int) < (y.l.length : Int) := by omega
        obtain ⟨qp, hqp⟩ : ∃ qp, y.l[p]? = some qp := ⟨_, List.getElem?_eq_getElem hpl⟩
        obtain ⟨gg', egg, hgg', p0'⟩ := HCE.out p qp hqp
        simp at egg
        subst egg
        have p0 := (hbe.cell (p := ⟨gg, p, none⟩) hgg).trans p0'
        have hqpl := HM.out qp (List.mem_of_getElem? hqp)
        have ekp : keyA T L (qp : Int) = keyOf T L qp := by unfold keyA; rw [if_pos (by unfold inT; simp; omega), Int.toNat_natCast]
        rw [hqp, Option.getD_some] at enext
        have HKq := veil (fun W hb => HK.out q W hb)
        have HKp := veil (fun W hb => HK.out qp W hb)
        simp only [ekq] at HKq
        simp only [ekp] at HKp
        generalize keyOf T L q = kq at HKq enext
        generalize keyOf T L qp = kp at HKp enext
        have hpn : decide ((p : Int) < 0) = false := by simp
        have hpn2 : ¬ (p : Int) = -1 := by omega
        have HCP : Hid (∀ W, Below w.heap.size w W → W.cell? ⟨gg, n, none⟩ = some (.int .i64 (q : Int)) ∧ W.cell? ⟨gg, p, none⟩ = some (.int .i64 (qp : Int))) := fun W hb => ⟨(hb.cell (p := ⟨gg, n, none⟩) hgg).trans q0', (hb.cell (p := ⟨gg, p, none⟩) hgg).trans p0'⟩
        have HAB := veil (fun W => rabove_ok W kq kp)
        cases hu : up kq kp with
        | true =>
          rw [hu] at HAB
          rw [if_pos (.inr hu)] at enext
          clear q0' p0' hbe hq hqp e1 e2
          go_wp2
          have hS1 := veil (And.intro q0 p0)
          have hS2 : Hid (wr.drew.cell? ⟨gg, n, none⟩ = some (.int .i64 (q : Int)) ∧ wr.drew.cell? ⟨gg, p, none⟩ = some (.int .i64 (qp : Int))) := ⟨q0, p0⟩
          go_region_held3 (fun w' => (w'.cell? ⟨gg, n, none⟩ = some (.int .i64 (q : Int)) ∧ w'.cell? ⟨gg, p, none⟩ = some (.int .i64 (qp : Int))))
            (first | with_reducible exact hS1.out | with_reducible exact hS2.out | with_reducible exact hS5.out | with_reducible exact hS4.out | with_reducible exact hS3.out)
            (first
              | (go_at_call 25; refine (HAB.out _).mono ?_; rintro e w3 ⟨rfl, hb3⟩; have HB3 := veil (HB2.out.trans (hb3.mono HB2.out.size)); have hS5 := veil (HCP.out w3 HB3.out); clear hb3)
              | (go_at_call 35; (have hh := HB1.out; clear hh); refine (HKp.out _ HB1.out).mono ?_; rintro e w2 ⟨rfl, hb2⟩; have HB2 := veil (HB1.out.trans (hb2.mono HB1.out.size)); have hS4 := veil (HCP.out w2 HB2.out); clear hb2)
              | (go_at_call 35; refine (HKq.out _ HBE.out.drew).mono ?_; rintro e w1 ⟨rfl, hb1⟩; have HB1 := veil (HBE.out.drew.trans (hb1.mono HBE.out.size)); have hS3 := veil (HCP.out w1 HB1.out); clear hb1))
          all_goals go_wp2
          all_goals go_roundw
          case rel => exact ⟨n + 1, HI.out, by go_num, by rw [enext.out], HB3.out⟩
          case measure => simp [intOf]; omega
        | false =>
          rw [hu] at HAB
          rw [if_neg (by simp [hu])] at enext
          have HE1 := veil e1
          clear q0' p0' hbe hq hqp e1 e2
          go_wp2
          have hS1 := veil (And.intro q0 p0)
          have hS2 : Hid (wr.drew.cell? ⟨gg, n, none⟩ = some (.int .i64 (q : Int)) ∧ wr.drew.cell? ⟨gg, p, none⟩ = some (.int .i64 (qp : Int))) := ⟨q0, p0⟩
          go_region_held3 (fun w' => (w'.cell? ⟨gg, n, none⟩ = some (.int .i64 (q : Int)) ∧ w'.cell? ⟨gg, p, none⟩ = some (.int .i64 (qp : Int))))
            (first | with_reducible exact hS1.out | with_reducible exact hS2.out | with_reducible exact hS5.out | with_reducible exact hS4.out | with_reducible exact hS3.out)
            (first
              | (go_at_call 25; refine (HAB.out _).mono ?_; rintro e w3 ⟨rfl, hb3⟩; have HB3 := veil (HB2.out.trans (hb3.mono HB2.out.size)); have hS5 := veil (HCP.out w3 HB3.out); clear hb3)
              | (go_at_call 35; (have hh := HB1.out; clear hh); refine (HKp.out _ HB1.out).mono ?_; rintro e w2 ⟨rfl, hb2⟩; have HB2 := veil (HB1.out.trans (hb2.mono HB1.out.size)); have hS4 := veil (HCP.out w2 HB2.out); clear hb2)
              | (go_at_call 35; refine (HKq.out _ HBE.out.drew).mono ?_; rintro e w1 ⟨rfl, hb1⟩; have HB1 := veil (HBE.out.drew.trans (hb1.mono HBE.out.size)); have hS3 := veil (HCP.out w1 HB1.out); clear hb1))
          all_goals go_wp2
          all_goals go_roundw
          case rel => exact ⟨n + 1, HI.out, by go_num, by rw [enext.out, HE1.out], HB3.out⟩
          case measure => simp [intOf]; omega
    · have hnl' : ¬ (n : Int) < (y.l.length : Int) := by omega
      obtain rfl : n = y.l.length := by omega
      have h2 := HH.out.below hbe
      obtain ⟨_, _, _, _, _, _, _, e2, e3, hv2⟩ := h2.rv
      simp at e2 e3
      obtain ⟨e21, e22⟩ := e2
      obtain ⟨e31, e32⟩ := e3
      subst e21 e22 e31 e32
      have d1 := hv2.c1
      have d2 := hv2.c2
      obtain ⟨_, eo, _, o2⟩ := hv2.ow j y HY.out
      simp at eo
      subst eo
      rw [HO.out] at o2
      have fo := frozen_row h2.oo
      have hq1 := h2.q.own HY.out (-1)
      by_cases hemp : y.l = []
      · have e0 : (foreTo (keyOf T L) y.l y.l.length).1 = -1 := by rw [hemp]; rfl
        rw [e0]
        have HMV : Hid (MovedR w (wr.setCell ⟨go, j, none⟩ (.int .i64 (-1))) base s (.slice ab T.length cb) (.slice (some ⟨go, 0, none⟩) L.length co) (.slice (some ⟨gw, 0, none⟩) L.length cw) V T (L.set j ⟨-1, y.l⟩)) :=
          ⟨V, hq1.r (HH.out.f.give HY.out hemp), (Fr.of_below' HBE.out).setCell (a := ⟨go, j, none⟩) (.inr (.inr (.inl rfl))) _, fun k q => .inl q⟩
        have HEM := veil hemp
        clear hq1 h2 hv2 hbe hemp
        go_wp2
        simp [bodyPost, results, Try.results56, go_sem]
        exact .inl ⟨rfl, HEM.out, rfl, HMV.out⟩
      · obtain ⟨p, hp, e1, e2⟩ := foreTo_some (keyOf T L) y.l y.l.length (Nat.le_refl _) (List.length_pos_iff.2 hemp)
        rw [e1]
        have hpl' : (p : Int) < (y.l.length : Int) := by omega
        obtain ⟨q, hq⟩ : ∃ q, y.l[p]? = some q := ⟨_, List.getElem?_eq_getElem hp⟩
        obtain ⟨gg, rfl, hgg, q0'⟩ := HCE.out p q hq
        have q0 := (hbe.cell (p := ⟨gg, p, none⟩) hgg).trans q0'
        have hpn : decide ((p : Int) < 0) = false := by simp
        have HVJ : Hid (V[j]? = some (.slice (some ⟨gg, 0, none⟩) y.l.length vc)) := by
          obtain ⟨v, hvv⟩ := HH.out.line hj
          obtain ⟨va', vc', ev, _, _⟩ := form_of (HH.out.lin j y v HY.out hvv)
          have el := hlv.out
          unfold lineAt at el
          rw [hvv, ev] at el
          simp at el
          show _ = _
          rw [hvv, ev, el.1, el.2]
        have hne : gg ≠ go := by
          obtain ⟨v, hvv⟩ := HH.out.line hj
          obtain ⟨va', vc', ev, _, _⟩ := form_of (HH.out.lin j y v HY.out hvv)
          have el := hlv.out
          unfold lineAt at el
          rw [hvv, ev] at el
          simp at el
          have := HH.out.apart v (List.mem_of_getElem? hvv) gg (by rw [ev, el.1]; rfl)
          intro e
          exact this (by rw [e]; rfl)
        have HQ1 := veil hq1
        have HQQ := veil hq
        clear hbe q0' h2 hv2 hq1 hq
        go_wp2
        have hrow1 := HQ1.out.lin j ⟨-1, y.l⟩ (.slice (some ⟨gg, 0, none⟩) y.l.length vc) (by simp [hj]) HVJ.out
        have HRW := veil hrow1
        have hbw1 : w.heap.size ≤ (wr.setCell ⟨go, j, none⟩ (.int .i64 (-1))).heap.size := by simpa using HBE.out.size
        have hF1 : Fr (ownR s (.slice ab T.length cb) (.slice (some ⟨go, 0, none⟩) L.length co) (.slice (some ⟨gw, 0, none⟩) L.length cw) V) w (wr.setCell ⟨go, j, none⟩ (.int .i64 (-1))) := (Fr.of_below' HBE.out).setCell (a := ⟨go, j, none⟩) (.inr (.inr (.inl rfl))) _
        have HF1 := veil hF1
        clear hrow1 hF1
        generalize wr.setCell ⟨go, j, none⟩ (.int .i64 (-1)) = W1 at HQ1 HRW hbw1 HF1 ⊢
        have HL1 : Hid ((ints (y.l.take p)).length = p * 1) := by show _ = _; simp [ints]; omega
        have HL2 : Hid ((ints (y.l.drop (p + 1))).length = (y.l.length - (p + 1)) * 1) := by show _ = _; simp [ints]
        have hcellW : ∀ (k x : Nat), y.l[k]? = some x → W1.cell? ⟨gg, k, none⟩ = some (.int .i64 (x : Int)) := by
          intro k x hx
          have hk := (List.getElem?_eq_some_iff.1 hx).1
          rw [HRW.out.cellAt k (by show k < y.l.length * 1; omega)]
          simp [ints, hx]
        have HS1 : Hid (∀ k u, (ints (y.l.take p))[k]? = some u → W1.drew.cell? ((⟨gg, 0, none⟩ : Addr).add k) = some u) := by
          intro k u hu
          have hadd : (⟨gg, 0, none⟩ : Addr).add k = ⟨gg, k, none⟩ := by unfold Addr.add; split <;> simp_all
          rw [hadd]
          simp only [ints, List.getElem?_map, Option.map_eq_some_iff, List.getElem?_take] at hu
          obtain ⟨x, hx, rfl⟩ := hu
          split at hx
          · exact hcellW k x hx
          · cases hx
        have hggl : gg < W1.heap.size := by omega
        obtain ⟨A, hA, hS2⟩ : ∃ A : Addr, (if vc = p + 1 then some (⟨gg, 0, none⟩ : Addr) else some ⟨gg, p + 1, none⟩) = some A ∧ Hid (∀ W, Below W1.heap.size W1 W → ∀ k u, (ints (y.l.drop (p + 1)))[k]? = some u → W.cell? (A.add k) = some u) := by
          by_cases hvc : vc = p + 1
          · refine ⟨⟨gg, 0, none⟩, by simp [hvc], fun W hb k u hu => ?_⟩
            have e0 : y.l.drop (p + 1) = [] := List.drop_eq_nil_of_le (by omega)
            rw [e0] at hu
            simp [ints] at hu
          · refine ⟨⟨gg, p + 1, none⟩, by simp [hvc], fun W hb k u hu => ?_⟩
            have hadd : (⟨gg, p + 1, none⟩ : Addr).add k = ⟨gg, p + 1 + k, none⟩ := by unfold Addr.add; split <;> simp_all
            rw [hadd]
            simp only [ints, List.getElem?_map, Option.map_eq_some_iff, List.getElem?_drop] at hu
            obtain ⟨x, hx, rfl⟩ := hu
            exact (hb.cell (p := ⟨gg, p + 1 + k, none⟩) hggl).trans (hcellW _ x hx)
        have HS2 := hS2
        have hp1 : p + 1 ≤ y.l.length := hp
        have hp2 : (p : Int) + 1 ≤ (y.l.length : Int) := by omega
        have hwp := wrap_succ p (by omega)
        have hp3 : p ≤ vc := by omega
        have hp0 : (0 : Int) ≤ (p : Int) + 1 := by omega
        have hp4 : p + 1 ≤ vc := by omega
        clear hcellW hS2
        refine wp_region_held_drew (S := (fun w' => True)) (by kernel_rfl) trivial (fun hHeld => ?_)
        refine wpAnyH_take (i := 0) (v := ?_) rfl (by kernel_rfl) (by kernel_rfl) (by kernel_rfl) (fun _ _ _ h => h) (Or.inl ⟨by rfl, ?v0⟩) (by assumption) ?_
        case v0 => (intro w hSw; (try dsimp only at hSw); go_simp; try with_reducible rfl)
        try simp only [Act.put, List.setIfInBounds_toArray, List.set_cons_zero, List.set_cons_succ, List.getElem_toArray, List.getElem_cons_zero]
        refine wpAnyH_take (i := 1) (v := ?_) rfl (by kernel_rfl) (by kernel_rfl) (by kernel_rfl) (fun _ _ _ h => h) (Or.inl ⟨by rfl, ?v1⟩) (by assumption) ?_
        case v1 => (intro w hSw; (try dsimp only at hSw); go_simp; try with_reducible rfl)
        try simp only [Act.put, List.setIfInBounds_toArray, List.set_cons_zero, List.set_cons_succ, List.getElem_toArray, List.getElem_cons_succ, List.getElem_cons_zero]
        refine wpAnyH_take (i := 2) (v := ?_) rfl (by kernel_rfl) (by kernel_rfl) (by kernel_rfl) (fun _ _ _ h => h) (Or.inl ⟨by rfl, ?v2⟩) (by assumption) ?_
        case v2 => (intro w hSw; (try dsimp only at hSw); go_simp; try with_reducible rfl)
        try simp only [Act.put, List.setIfInBounds_toArray, List.set_cons_zero, List.set_cons_succ, List.getElem_toArray, List.getElem_cons_succ, List.getElem_cons_zero]
        refine wpAnyH_take (i := 3) (v := ?_) rfl (by kernel_rfl) (by kernel_rfl) (by kernel_rfl) (fun _ _ _ h => h) (Or.inl ⟨by rfl, ?v3⟩) (by assumption) ?_
        case v3 => (intro w hSw; (try dsimp only at hSw); go_simp; try with_reducible rfl)
        try simp only [Act.put, List.setIfInBounds_toArray, List.set_cons_zero, List.set_cons_succ, List.getElem_toArray, List.getElem_cons_succ, List.getElem_cons_zero]
        refine wpAnyH_take (i := 5) (v := ?_) rfl (by kernel_rfl) (by kernel_rfl) (by kernel_rfl) (fun _ _ _ h => h) (Or.inl ⟨by rfl, ?v5⟩) (by assumption) ?_
        case v5 => (intro w hSw; (try dsimp only at hSw); go_simp; try with_reducible rfl)
        try simp only [Act.put, List.setIfInBounds_toArray, List.set_cons_zero, List.set_cons_succ, List.getElem_toArray, List.getElem_cons_succ, List.getElem_cons_zero]
        refine wpAnyH_take (i := 6) (v := ?_) rfl (by kernel_rfl) (by kernel_rfl) (by kernel_rfl) (fun _ _ _ h => h) (Or.inl ⟨by rfl, ?v6⟩) (by assumption) ?_
        case v6 => (intro w hSw; (try dsimp only at hSw); go_simp; try with_reducible rfl)
        try simp only [Act.put, List.setIfInBounds_toArray, List.set_cons_zero, List.set_cons_succ, List.getElem_toArray, List.getElem_cons_succ, List.getElem_cons_zero]
        refine wpAnyH_take (i := 7) (v := ?_) rfl (by kernel_rfl) (by kernel_rfl) (by kernel_rfl) (fun _ _ _ h => h) (Or.inl ⟨by rfl, ?v7⟩) (by assumption) ?_
        case v7 => (intro w hSw; (try dsimp only at hSw); go_simp; try with_reducible rfl)
        try simp only [Act.put, List.setIfInBounds_toArray, List.set_cons_zero, List.set_cons_succ, List.getElem_toArray, List.getElem_cons_succ, List.getElem_cons_zero]
        refine wpAnyH_take (i := 8) (v := ?_) rfl (by kernel_rfl) (by kernel_rfl) (by kernel_rfl) (fun _ _ _ h => h) (Or.inl ⟨by rfl, ?v8⟩) (by assumption) ?_
        case v8 => (intro w hSw; (try dsimp only at hSw); go_simp; try with_reducible rfl)
        try simp only [Act.put, List.setIfInBounds_toArray, List.set_cons_zero, List.set_cons_succ, List.getElem_toArray, List.getElem_cons_succ, List.getElem_cons_zero]
        refine wpAnyH_ready (rs := [4]) (by kernel_rfl) (by simp) ?_
        refine AllReadyH.cons rfl (fun K hK => ?_) AllReadyH.nil
        refine step_append_any _ (by rfl) _ _ _ (by rfl) W1.heap.size 3 i0 (.int .i64 0) 1 8 Try.underlying31 hi0 hz0 hz1 hz2 rfl (by omega) (.slice none 0 0) 0 [] (by rfl) (World.ownsRow_nil _ _ _ _) ⟨gg, 0, none⟩ p vc (ints (y.l.take p)) (by rfl) HL1.out HS1.out (ints_oneCell _) (by unfold maxLen; omega) (by omega) (Nat.le_refl _) ?_
        intro v1 w2 ho1 hg1
        have HB2 : Hid (Below W1.heap.size W1 w2) := ((Below.refl _ W1).drew).grown hg1 (Nat.le_refl _) (fun k hk => by simp [Value.ownBlock] at hk)
        have HO1 := veil ho1
        clear ho1 hg1
        refine hK.out _ _ ?_ (fun hHeld => ?_)
        · trivial
        clear hK K
        try simp only [Act.put, List.setIfInBounds_toArray, List.set_cons_zero, List.set_cons_succ, List.getElem_toArray, List.getElem_cons_succ, List.getElem_cons_zero]
        refine wpAnyH_ready (rs := [9]) (by kernel_rfl) (by simp) ?_
        refine AllReadyH.cons rfl (fun K hK => ?_) AllReadyH.nil
        refine step_append_any _ (by rfl) _ _ _ (by rfl) W1.heap.size 3 i0 (.int .i64 0) 1 8 Try.underlying31 hi0 hz0 hz1 hz2 rfl (by omega) v1 (0 + p) ([] ++ ints (y.l.take p)) (by rfl) HO1.out A (y.l.length - (p + 1)) (vc - (p + 1)) (ints (y.l.drop (p + 1))) (by simp [Act.eval]) HL2.out (HS2.out w2 HB2.out) (ints_oneCell _) (by unfold maxLen; omega) (by omega) HB2.out.size ?_
        intro v2 w3 ho2 hg2
        have HB3 : Hid (Below W1.heap.size W1 w3) := HB2.out.grown hg2 HB2.out.size (fun k hk => (ownsRow_blk HO1.out hk).1)
        have HO2 := veil ho2
        clear ho2 hg2 HO1 HB2
        refine hK.out _ _ ?_ (fun hHeld => ?_)
        · trivial
        clear hK K
        try simp only [Act.put, List.setIfInBounds_toArray, List.set_cons_zero, List.set_cons_succ, List.getElem_toArray, List.getElem_cons_succ, List.getElem_cons_zero]
        refine wpAnyH_take (i := 10) (v := ?_) rfl (by kernel_rfl) (by kernel_rfl) (by kernel_rfl) (fun _ _ _ h => h) (Or.inl ⟨by rfl, ?v10⟩) (by assumption) ?_
        case v10 => (intro w hSw; (try dsimp only at hSw); go_simp; try with_reducible rfl)
        try simp only [Act.put, List.setIfInBounds_toArray, List.set_cons_zero, List.set_cons_succ, List.getElem_toArray, List.getElem_cons_succ, List.getElem_cons_zero]
        refine wpAnyH_done (by kernel_rfl) ?_ _
        skip
        have hO2 : w3.ownsRow W1.heap.size 3 1 v2 (y.l.eraseIdx p).length (ints (y.l.eraseIdx p)) := by
          have e1 : (y.l.eraseIdx p).length = 0 + p + (y.l.length - (p + 1)) := by rw [List.length_eraseIdx, if_pos hp]; omega
          have e2 : ints (y.l.eraseIdx p) = [] ++ ints (y.l.take p) ++ ints (y.l.drop (p + 1)) := by rw [List.eraseIdx_eq_take_drop_succ]; simp [ints]
          rw [e1, e2]
          exact HO2.out
        obtain ⟨a2, d2', rfl, _, _⟩ := form_of hO2
        have hq3 := HQ1.out.below HB3.out
        have hyj : (L.set j ⟨-1, y.l⟩)[j]? = some ⟨-1, y.l⟩ := by simp [hj]
        have hq4 := (show IsQ W1 base s (.slice ab T.length cb) (.slice (some ⟨go, 0, none⟩) L.length co) (.slice (some ⟨gw, 0, none⟩) (L.set j ⟨-1, y.l⟩).length cw) V T (L.set j ⟨-1, y.l⟩) by rw [List.length_set]; exact HQ1.out).lined hyj HB3.out hO2
        rw [List.set_set, List.length_set] at hq4
        have hyj2 : (L.set j ⟨-1, y.l.eraseIdx p⟩)[j]? = some ⟨-1, y.l.eraseIdx p⟩ := by simp [hj]
        have hq5 := (show IsQ (w3.setCell ⟨gw, j, none⟩ (.slice a2 (y.l.eraseIdx p).length d2')) base s (.slice ab T.length cb) (.slice (some ⟨go, 0, none⟩) (L.set j ⟨-1, y.l.eraseIdx p⟩).length co) (.slice (some ⟨gw, 0, none⟩) L.length cw) (V.set j (.slice a2 (y.l.eraseIdx p).length d2')) T (L.set j ⟨-1, y.l.eraseIdx p⟩) by rw [List.length_set]; exact hq4).own hyj2 (q : Int)
        rw [List.set_set, List.length_set] at hq5
        have hql := HM.out q (List.mem_of_getElem? HQQ.out)
        obtain ⟨z, hz⟩ : ∃ z, T[q]? = some z := ⟨_, List.getElem?_eq_getElem hql⟩
        have hr6 := (hq5.waits hz (-1)).r (HH.out.f.next hz HY.out HQQ.out)
        have k2 := hq3.sc.2.2
        have k2a : (w3.cell? ⟨gw, j, none⟩).isSome = true ∧ ∀ k, w3.frozen? ⟨gw, k, none⟩ = false := by
          have hwo := hq3.wo
          rw [List.length_set] at hwo
          refine ⟨?_, frozen_row hwo⟩
          rw [hwo.cellAt j (by omega), HVJ.out]
          rfl
        obtain ⟨uo, k3⟩ := Option.isSome_iff_exists.1 k2a.1
        have k4 := k2a.2
        have k5 := hq4.sc.2.1
        have k6a : (w3.setCell ⟨gw, j, none⟩ (.slice a2 (y.l.eraseIdx p).length d2')).cell? ⟨go, j, none⟩ = some (.int .i64 (-1)) ∧ ∀ k, (w3.setCell ⟨gw, j, none⟩ (.slice a2 (y.l.eraseIdx p).length d2')).frozen? ⟨go, k, none⟩ = false := by
          have hoo := hq4.oo
          rw [List.length_set] at hoo
          refine ⟨?_, frozen_row hoo⟩
          rw [hoo.cellAt j (by omega)]
          simp [hcells, hj]
        have k6 := k6a.1
        have k7 := k6a.2
        have HMV : Hid (MovedR w ((w3.setCell ⟨gw, j, none⟩ (.slice a2 (y.l.eraseIdx p).length d2')).setCell ⟨go, j, none⟩ (.int .i64 (q : Int))) base s (.slice ab T.length cb) (.slice (some ⟨go, 0, none⟩) L.length co) (.slice (some ⟨gw, 0, none⟩) L.length cw) V (T.set q ⟨z.k, -1⟩) (L.set j ⟨(q : Int), y.l.eraseIdx p⟩)) := by
          refine ⟨_, hr6, ?_, ?_⟩
          · exact ((HF1.out.trans (Fr.of_below' HB3.out)).setCell (a := ⟨gw, j, none⟩) (.inr (.inr (.inr (.inl rfl)))) _).setCell (a := ⟨go, j, none⟩) (.inr (.inr (.inl rfl))) _
          · rintro k (r | r | r | r | ⟨u, hu, r⟩)
            · exact .inl (.inl r)
            · exact .inl (.inr (.inl r))
            · exact .inl (.inr (.inr (.inl r)))
            · exact .inl (.inr (.inr (.inr (.inl r))))
            · rcases List.mem_or_eq_of_mem_set hu with r' | rfl
              · exact .inl (.inr (.inr (.inr (.inr ⟨u, r', r⟩))))
              · exact .inr (Nat.le_trans hbw1 (ownsRow_blk hO2 r).1)
        have HZZ := veil hz
        clear hO2 hq3 hyj hq4 hyj2 hq5 hr6 k2a k6a HO2 HB3 hz
        generalize (y.l.eraseIdx p).length = n2 at HMV k5 k6 k7
        go_wp2
        simp [bodyPost, results, Try.results56, go_sem]
        exact .inr ⟨p, q, z, rfl, HQQ.out, HZZ.out, rfl, HMV.out⟩
end
end Go.Proofs.Ytbhkgbhgofefjaa
