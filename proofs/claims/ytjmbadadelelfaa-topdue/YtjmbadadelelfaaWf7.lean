/- partialInsertionSortOrdered. -/
import Derived.Test.YtjmbadadelelfaaWf6
namespace Go.Proofs.Ytjmbadadelelfaa
open Go.RowKit
set_option linter.unusedVariables false
set_option linter.unusedSimpArgs false
attribute [local go_sem ↓] Go.wp_at_zero Go.wp_at_succ
/-- What stands ahead of a part is below all of it. -/
def Fore (a b : Nat) (D : Nat → Nat) : Prop := a = 0 ∨ ∀ x, a ≤ x → x < b → D (a - 1) < D x
def POut (W : World) (r cap n : Nat) (D : Nat → Nat) (a b : Nat) (e : Ending) (w' : World) : Prop := ∃ (t : Bool) (D' : Nat → Nat), e = .returned (.bool t) ∧ RowU w' r cap n D' ∧ Prm a b D D' ∧ (t = true → Asn a b D') ∧ Fr (fun k => k = r) W w'
theorem POut.mk {W : World} {r cap n : Nat} {D : Nat → Nat} {a b : Nat} {w' : World} (t : Bool) (D' : Nat → Nat) (h1 : RowU w' r cap n D') (h2 : Prm a b D D') (h3 : t = true → Asn a b D') (h4 : Fr (fun k => k = r) W w') : POut W r cap n D a b (.returned (.bool t)) w' := ⟨t, D', rfl, h1, h2, h3, h4⟩
set_option maxRecDepth 100000 in
set_option maxHeartbeats 8000000 in
theorem partial_ok (W : World) (r cap n : Nat) (D : Nat → Nat) (a b : Nat) (h : RowU W r cap n D) (hab : a < b) (hb : b ≤ n) (hn : n ≤ 100000) (hdif : Dif a b D) (hfore : Fore a b D) :
    Calls Try.prog 71 #[.slice (some ⟨r, 0, none⟩) n cap, .int .i64 (a : Int), .int .i64 (b : Int)] W fun e w' => POut W r cap n D a b e w' := by
  have HL := veil (fun x y W => less_ok x y W)
  have H0 := veil h
  have HI0 := veil hdif
  have HB0 : Hid (a = 0 ∨ ∀ x, a ≤ x → x < b → D (a - 1) < D x) := hfore
  clear h hdif hfore
  go_enter Try.func71, Try.ntmps71
  go_wp2
  go_loopw [7, 8] (fun iv jv wr => ∃ (i q : Nat) (D1 : Nat → Nat), a < i ∧ i ≤ b ∧ q ≤ 5 ∧ iv = .int .i64 (i : Int) ∧ jv = .int .i64 (q : Int) ∧ RowU wr r cap n D1 ∧ Prm a b D D1 ∧ Asn a i D1 ∧ Fr (fun k => k = r) W wr) (fun _ jv _ => 5 - (intOf jv).toNat)
  case atStart => exact ⟨a + 1, 0, D, by omega, by omega, by omega, by go_num, rfl, H0.out, Prm.refl _ _ _, fun x y h1 h2 h3 => by omega, Fr.refl _ _⟩
  case round =>
    obtain ⟨i, q, D1, hai, hib, hq5, rfl, rfl, hrow, hprm, hasn, hfr⟩ := hrel
    clear H0
    have HRw := veil hrow
    have HPr := veil hprm
    have HFr := veil hfr
    have HAs := veil hasn
    clear hrow hprm hasn hfr
    by_cases hq : q < 5
    · have hq' : (q : Int) < 5 := by omega
      go_wp2
      go_loopw [7] (fun iv wr => ∃ (i : Nat), a < i ∧ i ≤ b ∧ iv = .int .i64 (i : Int) ∧ RowU wr r cap n D1 ∧ Asn a i D1 ∧ Fr (fun k => k = r) W wr) (fun iv _ => b - (intOf iv).toNat)
      case atStart => exact ⟨i, hai, hib, rfl, HRw.out, HAs.out, HFr.out⟩
      case round =>
        obtain ⟨i, hai, hib, rfl, hrow, hasn, hfr⟩ := hrel
        clear HRw HAs HFr
        have HRw := veil hrow
        have HFr := veil hfr
        have HAs := veil hasn
        clear hrow hasn hfr
        obtain ⟨k, hik⟩ : ∃ k, i = k + 1 := ⟨i - 1, by omega⟩
        have Hi := veil hik
        clear hik
        go_wp2
        go_cut [32] from 17 to 34 (fun s Wc => s = .bool (decide (i < b) && !decide (D1 i < D1 k)) ∧ RowU Wc r cap n D1 ∧ Fr (fun k => k = r) W Wc)
        case first =>
          by_cases hin : i < b
          · have hin' : (i : Int) < (b : Int) := by omega
            have hind : decide ((i : Int) < (b : Int)) = true := decide_eq_true hin'
            have fz := HRw.out.frozen
            have hlts := HRw.out.lt
            have cx := HRw.out.cell i (by have := Hi.out; omega)
            have cy := HRw.out.cell k (by have := Hi.out; omega)
            have kx : (i : Int) < (n : Int) := by have := Hi.out; omega
            have ky : (k : Int) < (n : Int) := by have := Hi.out; omega
            have exy : (i : Int) - 1 = (k : Int) := by have := Hi.out; have := Hi.out; omega
            have hw_x : IntKind.i64.wrap (i : Int) = (i : Int) := by simp [IntKind.wrap, IntKind.bits, IntKind.signed]; have := Hi.out; omega
            have hw_y : IntKind.i64.wrap (k : Int) = (k : Int) := by simp [IntKind.wrap, IntKind.bits, IntKind.signed]; have := Hi.out; omega
            have hnxy : ¬ i = k := by have := Hi.out; omega
            have hnyx : ¬ k = i := by have := Hi.out; omega
            have HLs := veil (fun W => HL.out (D1 i : Int) (D1 k : Int) W)
            by_cases hlt : D1 i < D1 k
            · have hqq : (decide (i < b) && !decide (D1 i < D1 k)) = false := by simp [hin, hlt]
              have hlt' : decide ((D1 i : Int) < (D1 k : Int)) = true := by simp; omega
              rw [hlt'] at HLs
              go_region_held3 (fun w' => w'.cell? ⟨r, i, none⟩ = some (.int .u64 (D1 i : Int)) ∧ w'.cell? ⟨r, k, none⟩ = some (.int .u64 (D1 k : Int))) (go_keep)
                (first | (go_at_call 72; refine (HLs.out _).mono ?_; rintro e w1 ⟨rfl, hw⟩; subst hw))
              go_wp2
              go_meet
              exact ⟨by rw [hqq], HRw.out.kept rfl, HFr.out.drew⟩
            · have hqq : (decide (i < b) && !decide (D1 i < D1 k)) = true := by simp [hin, hlt]
              have hlt' : decide ((D1 i : Int) < (D1 k : Int)) = false := by simp; omega
              rw [hlt'] at HLs
              go_region_held3 (fun w' => w'.cell? ⟨r, i, none⟩ = some (.int .u64 (D1 i : Int)) ∧ w'.cell? ⟨r, k, none⟩ = some (.int .u64 (D1 k : Int))) (go_keep)
                (first | (go_at_call 72; refine (HLs.out _).mono ?_; rintro e w1 ⟨rfl, hw⟩; subst hw))
              go_wp2
              go_meet
              exact ⟨by rw [hqq], HRw.out.kept rfl, HFr.out.drew⟩
          · have hin' : ¬ (i : Int) < (b : Int) := by omega
            have hqq : (decide (i < b) && !decide (D1 i < D1 k)) = false := by simp [hin]
            go_quiet (fail)
            go_wp2
            go_meet
            exact ⟨by rw [hqq], HRw.out.kept rfl, HFr.out.drewN _⟩
        obtain ⟨rfl, hrow, hfr⟩ := hcut
        clear HRw HFr
        have HRw := veil hrow
        have HFr := veil hfr
        clear hrow hfr
        cases hqq : (decide (i < b) && !decide (D1 i < D1 k)) with
        | true =>
          have hq1 : i < b ∧ ¬ D1 i < D1 k := by simpa using hqq
          have HNX : Hid (Asn a (i + 1) D1) := by
            show Asn a (i + 1) D1
            have hik := Hi.out
            intro x y h1 h2 h3
            by_cases e : y = i
            · rw [e]
              have hne : D1 k ≠ D1 i := fun q => by have := HPr.out.inj HI0.out k i (by omega) (by omega) (by omega) (by omega) q; omega
              by_cases e2 : x = k
              · rw [e2]; omega
              · have := HAs.out x k h1 (by omega) (by omega); omega
            · exact HAs.out x y h1 h2 (by omega)
          clear hqq
          go_wp2
          go_roundw
          case rel => exact ⟨i + 1, by omega, by omega, by go_num, HRw.out, HNX.out, HFr.out⟩
          case measure => simp [intOf]; omega
        | false =>
          have hq1 : i < b → D1 i < D1 k := by simpa using hqq
          clear hqq
          by_cases hbb : i = b
          · have hbb' : (i : Int) = (b : Int) := by omega
            have HE : Hid (Asn a b D1) := by rw [← hbb]; exact HAs.out
            subst hbb
            go_wp2
            go_ret
            exact POut.mk true D1 HRw.out HPr.out (fun _ => HE.out) HFr.out
          · have hbb' : ¬ (i : Int) = (b : Int) := by omega
            by_cases h50 : b - a < 50
            · have h50' : (b : Int) - (a : Int) < 50 := by omega
              go_wp2
              go_ret
              exact POut.mk false D1 HRw.out HPr.out (fun h => by cases h) HFr.out
            · have h50' : ¬ (b : Int) - (a : Int) < 50 := by omega
              have hlt := hq1 (by omega)
              have fz := HRw.out.frozen
              have hlts := HRw.out.lt
              have cx := HRw.out.cell i (by have := Hi.out; omega)
              have cy := HRw.out.cell k (by have := Hi.out; omega)
              have kx : (i : Int) < (n : Int) := by have := Hi.out; omega
              have ky : (k : Int) < (n : Int) := by have := Hi.out; omega
              have exy : (i : Int) - 1 = (k : Int) := by have := Hi.out; have := Hi.out; omega
              have hw_x : IntKind.i64.wrap (i : Int) = (i : Int) := by simp [IntKind.wrap, IntKind.bits, IntKind.signed]; have := Hi.out; omega
              have hw_y : IntKind.i64.wrap (k : Int) = (k : Int) := by simp [IntKind.wrap, IntKind.bits, IntKind.signed]; have := Hi.out; omega
              have hnxy : ¬ i = k := by have := Hi.out; omega
              have hnyx : ¬ k = i := by have := Hi.out; omega
              have HLs := veil (fun W => HL.out (D1 i : Int) (D1 k : Int) W)
              have HPr3 : Hid (Prm a b D (sw D1 i k)) := HPr.out.trans (Prm.swap (by omega) (by have := Hi.out; omega))
              have HS3 : Hid (Asn a k (sw D1 i k)) := fun x y h1 h2 h3 => by have hik := Hi.out; rw [sw_at, sw_at, if_neg (by omega), if_neg (by omega), if_neg (by omega), if_neg (by omega)]; exact HAs.out x y h1 h2 (by omega)
              have HRw0 := HRw
              have HFr0 := HFr
              go_wp2
              go_region
              go_upto_if 61 with fail
              go_cut [9] from 13 to 132 (fun _ Wc => ∃ D4, RowU Wc r cap n D4 ∧ Prm a b D D4 ∧ Asn a i D4 ∧ Fr (fun k => k = r) W Wc)
              case first =>
                by_cases hia : 2 ≤ i - a
                · have hia' : (2 : Int) ≤ (i : Int) - (a : Int) := by omega
                  have hdec : decide ((2 : Int) ≤ (i : Int) - (a : Int)) = true := decide_eq_true hia'
                  rw [hdec]
                  go_wp2
                  go_loopw [9] (fun jv wr => ∃ (j : Nat) (D4 : Nat → Nat), a ≤ j ∧ j ≤ k ∧ jv = .int .i64 (j : Int) ∧ RowU wr r cap n D4 ∧ Prm a b D D4 ∧ Half2 a k j D4 ∧ Fr (fun k => k = r) W wr) (fun jv _ => (intOf jv).toNat)
                  case atStart => exact ⟨k, sw D1 i k, by have := Hi.out; omega, Nat.le_refl _, rfl, (RowU.kept (HRw0.out.swap i k (by omega) (by have := Hi.out; omega)) rfl), HPr3.out, ⟨fun x y h1 h2 h3 h4 h5 => HS3.out x y h1 h2 (by omega), fun y h1 h2 => by omega⟩, (((HFr0.out.setCell (a := ⟨r, i, none⟩) rfl _).setCell (a := ⟨r, k, none⟩) rfl _).drew)⟩
                  case round =>
                    obtain ⟨j, D4, haj, hjk, rfl, hrow, hprm, hh, hfr⟩ := hrel
                    clear HPr3 HS3
                    have HRw := veil hrow
                    have HPr4 := veil hprm
                    have HFr4 := veil hfr
                    have HHf := veil hh
                    clear hrow hprm hh hfr
                    by_cases hj1 : 1 ≤ j
                    · have hj1' : (1 : Int) ≤ (j : Int) := by omega
                      obtain ⟨l, hl⟩ : ∃ l, j = l + 1 := ⟨j - 1, by omega⟩
                      have Hj := veil hl
                      clear hl
                      have fz := HRw.out.frozen
                      have hlts := HRw.out.lt
                      have cx := HRw.out.cell j (by have := Hj.out; have := Hi.out; omega)
                      have cy := HRw.out.cell l (by have := Hj.out; have := Hi.out; omega)
                      have kx : (j : Int) < (n : Int) := by have := Hj.out; have := Hi.out; omega
                      have ky : (l : Int) < (n : Int) := by have := Hj.out; have := Hi.out; omega
                      have exy : (j : Int) - 1 = (l : Int) := by have := Hj.out; have := Hj.out; have := Hi.out; omega
                      have hw_x : IntKind.i64.wrap (j : Int) = (j : Int) := by simp [IntKind.wrap, IntKind.bits, IntKind.signed]; have := Hj.out; have := Hi.out; omega
                      have hw_y : IntKind.i64.wrap (l : Int) = (l : Int) := by simp [IntKind.wrap, IntKind.bits, IntKind.signed]; have := Hj.out; have := Hi.out; omega
                      have hnxy : ¬ j = l := by have := Hj.out; have := Hi.out; omega
                      have hnyx : ¬ l = j := by have := Hj.out; have := Hi.out; omega
                      have HLs := veil (fun W => HL.out (D4 j : Int) (D4 l : Int) W)
                      by_cases hlt : D4 j < D4 l
                      · have hal : a ≤ l := by
                          have hl := Hj.out
                          apply Classical.byContradiction
                          intro hc
                          rcases HB0.out with e | e
                          · omega
                          · have hja : j = a := by omega
                            have := HPr4.out.all (p := fun v => D (a - 1) < v) e j (by omega) (by have := Hi.out; omega)
                            rw [← HPr4.out.out (a - 1) (by omega), show a - 1 = l by omega] at this
                            omega
                        have HST : Hid (Half2 a k l (sw D4 j l)) := by have hl := Hj.out; subst hl; exact Half2.step HHf.out hal (by omega) hlt
                        go_wp2
                        have hlt' : decide ((D4 j : Int) < (D4 l : Int)) = true := by simp; omega
                        rw [hlt'] at HLs
                        go_region_held3 (fun w' => w'.cell? ⟨r, j, none⟩ = some (.int .u64 (D4 j : Int)) ∧ w'.cell? ⟨r, l, none⟩ = some (.int .u64 (D4 l : Int))) (go_keep)
                          (first | (go_at_call 72; refine (HLs.out _).mono ?_; rintro e w1 ⟨rfl, hw⟩; subst hw))
                        go_wp2
                        go_region
                        go_wp2
                        go_roundw
                        case rel => exact ⟨l, sw D4 j l, hal, by have := Hj.out; omega, rfl, RowU.kept (HRw.out.swap j l (by have := Hi.out; omega) (by have := Hj.out; have := Hi.out; omega)) rfl, HPr4.out.trans (Prm.swap (by have := Hi.out; omega) (by have := Hj.out; have := Hi.out; omega)), HST.out, ((HFr4.out.setCell (a := ⟨r, j, none⟩) rfl _).setCell (a := ⟨r, l, none⟩) rfl _).drew.drew⟩
                        case measure => have hl := Hj.out; simp [intOf]; omega
                      · have HDN : Hid (Asn a (k + 1) D4) := HHf.out.done (HPr4.out.inj HI0.out) (by have := Hi.out; omega) haj hjk (.inr (by rw [show j - 1 = l by have := Hj.out; omega]; exact hlt))
                        go_wp2
                        have hlt' : decide ((D4 j : Int) < (D4 l : Int)) = false := by simp; omega
                        rw [hlt'] at HLs
                        go_region_held3 (fun w' => w'.cell? ⟨r, j, none⟩ = some (.int .u64 (D4 j : Int)) ∧ w'.cell? ⟨r, l, none⟩ = some (.int .u64 (D4 l : Int))) (go_keep)
                          (first | (go_at_call 72; refine (HLs.out _).mono ?_; rintro e w1 ⟨rfl, hw⟩; subst hw))
                        go_wp2
                        go_meet
                        exact ⟨D4, HRw.out.kept rfl, HPr4.out, by rw [Hi.out]; exact HDN.out, HFr4.out.drew⟩
                    · have hj1' : ¬ (1 : Int) ≤ (j : Int) := by omega
                      have HDN : Hid (Asn a (k + 1) D4) := HHf.out.done (HPr4.out.inj HI0.out) (by have := Hi.out; omega) haj hjk (.inl (by omega))
                      go_wp2
                      go_meet
                      exact ⟨D4, HRw.out, HPr4.out, by rw [Hi.out]; exact HDN.out, HFr4.out⟩
                · have hia' : ¬ (2 : Int) ≤ (i : Int) - (a : Int) := by omega
                  go_wp2
                  go_meet
                  exact ⟨sw D1 i k, (RowU.kept (HRw0.out.swap i k (by omega) (by have := Hi.out; omega)) rfl), HPr3.out, (fun x y h1 h2 h3 => by omega), (((HFr0.out.setCell (a := ⟨r, i, none⟩) rfl _).setCell (a := ⟨r, k, none⟩) rfl _).drew)⟩
              obtain ⟨D4, hrow, hprm, hasn, hfr⟩ := hcut
              clear HPr3 HS3 HRw0 HFr0 HRw HFr fz hlts cx cy
              have HRs := veil hrow
              have HPr3 := veil hprm
              have HS3 := veil hasn
              have HFr3 := veil hfr
              clear hrow hprm hasn hfr
              by_cases hbi : 2 ≤ b - i
              · have hbi' : (2 : Int) ≤ (b : Int) - (i : Int) := by omega
                go_wp2
                go_loopw [10] (fun jv wr => ∃ (j : Nat) (D5 : Nat → Nat), i + 1 ≤ j ∧ j ≤ b ∧ jv = .int .i64 (j : Int) ∧ RowU wr r cap n D5 ∧ Prm a b D D5 ∧ Asn a i D5 ∧ Fr (fun k => k = r) W wr) (fun jv _ => b - (intOf jv).toNat)
                case atStart => exact ⟨i + 1, _, by omega, by omega, by go_num, HRs.out, HPr3.out, HS3.out, HFr3.out⟩
                case round =>
                  obtain ⟨j, D5, haj, hjb, rfl, hrow, hprm, hasn, hfr⟩ := hrel
                  clear HRs HPr3 HS3 HFr3
                  have HRw := veil hrow
                  have HPr4 := veil hprm
                  have HFr4 := veil hfr
                  have HAs := veil hasn
                  clear hrow hprm hasn hfr
                  by_cases hj1 : j < b
                  · have hj1' : (j : Int) < (b : Int) := by omega
                    obtain ⟨l, hl⟩ : ∃ l, j = l + 1 := ⟨j - 1, by omega⟩
                    have Hj := veil hl
                    clear hl
                    have fz := HRw.out.frozen
                    have hlts := HRw.out.lt
                    have cx := HRw.out.cell j (by have := Hj.out; omega)
                    have cy := HRw.out.cell l (by have := Hj.out; omega)
                    have kx : (j : Int) < (n : Int) := by have := Hj.out; omega
                    have ky : (l : Int) < (n : Int) := by have := Hj.out; omega
                    have exy : (j : Int) - 1 = (l : Int) := by have := Hj.out; have := Hj.out; omega
                    have hw_x : IntKind.i64.wrap (j : Int) = (j : Int) := by simp [IntKind.wrap, IntKind.bits, IntKind.signed]; have := Hj.out; omega
                    have hw_y : IntKind.i64.wrap (l : Int) = (l : Int) := by simp [IntKind.wrap, IntKind.bits, IntKind.signed]; have := Hj.out; omega
                    have hnxy : ¬ j = l := by have := Hj.out; omega
                    have hnyx : ¬ l = j := by have := Hj.out; omega
                    have HLs := veil (fun W => HL.out (D5 j : Int) (D5 l : Int) W)
                    by_cases hlt : D5 j < D5 l
                    · have HST : Hid (Asn a i (sw D5 j l)) := fun x y h1 h2 h3 => by have hl := Hj.out; rw [sw_at, sw_at, if_neg (by omega), if_neg (by omega), if_neg (by omega), if_neg (by omega)]; exact HAs.out x y h1 h2 h3
                      go_wp2
                      have hlt' : decide ((D5 j : Int) < (D5 l : Int)) = true := by simp; omega
                      rw [hlt'] at HLs
                      go_region_held3 (fun w' => w'.cell? ⟨r, j, none⟩ = some (.int .u64 (D5 j : Int)) ∧ w'.cell? ⟨r, l, none⟩ = some (.int .u64 (D5 l : Int))) (go_keep)
                        (first | (go_at_call 72; refine (HLs.out _).mono ?_; rintro e w1 ⟨rfl, hw⟩; subst hw))
                      go_wp2
                      go_region
                      go_wp2
                      go_roundw
                      case rel => exact ⟨j + 1, sw D5 j l, by omega, by omega, by go_num, RowU.kept (HRw.out.swap j l (by omega) (by have := Hj.out; omega)) rfl, HPr4.out.trans (Prm.swap (by omega) (by have := Hj.out; omega)), HST.out, ((HFr4.out.setCell (a := ⟨r, j, none⟩) rfl _).setCell (a := ⟨r, l, none⟩) rfl _).drew.drew⟩
                      case measure => have hl := Hj.out; simp [intOf]; omega
                    · go_wp2
                      have hlt' : decide ((D5 j : Int) < (D5 l : Int)) = false := by simp; omega
                      rw [hlt'] at HLs
                      go_region_held3 (fun w' => w'.cell? ⟨r, j, none⟩ = some (.int .u64 (D5 j : Int)) ∧ w'.cell? ⟨r, l, none⟩ = some (.int .u64 (D5 l : Int))) (go_keep)
                        (first | (go_at_call 72; refine (HLs.out _).mono ?_; rintro e w1 ⟨rfl, hw⟩; subst hw))
                      go_wp2
                      go_roundw
                      case rel => first | exact ⟨i, q + 1, D5, hai, hib, by omega, rfl, by go_num, HRw.out.kept rfl, HPr4.out, HAs.out, HFr4.out.drew⟩ | (repeat apply Exists.intro; exact ⟨⟨i, q + 1, D5, hai, hib, by omega, rfl, by go_num, HRw.out.kept rfl, HPr4.out, HAs.out, HFr4.out.drew⟩, rfl⟩)
                      case measure => simp [intOf]; omega
                  · have hj1' : ¬ (j : Int) < (b : Int) := by omega
                    go_wp2
                    go_roundw
                    case rel => first | exact ⟨i, q + 1, D5, hai, hib, by omega, rfl, by go_num, HRw.out, HPr4.out, HAs.out, HFr4.out⟩ | (repeat apply Exists.intro; exact ⟨⟨i, q + 1, D5, hai, hib, by omega, rfl, by go_num, HRw.out, HPr4.out, HAs.out, HFr4.out⟩, rfl⟩)
                    case measure => simp [intOf]; omega
              · have hbi' : ¬ (2 : Int) ≤ (b : Int) - (i : Int) := by omega
                go_wp2
                go_roundw
                case rel => first | exact ⟨i, q + 1, D4, hai, hib, by omega, rfl, by go_num, HRs.out, HPr3.out, HS3.out, HFr3.out⟩ | (repeat apply Exists.intro; exact ⟨⟨i, q + 1, D4, hai, hib, by omega, rfl, by go_num, HRs.out, HPr3.out, HS3.out, HFr3.out⟩, rfl⟩)
                case measure => simp [intOf]; omega
    · have hq' : ¬ (q : Int) < 5 := by omega
      go_wp2
      go_ret
      exact POut.mk false D1 HRw.out HPr.out (fun h => by cases h) HFr.out
end Go.Proofs.Ytjmbadadelelfaa
