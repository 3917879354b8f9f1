/- insertionSortOrdered on a part of the row. -/
import Derived.Test.YtjmbadadelelfaaWf2
namespace Go.Proofs.Ytjmbadadelelfaa
open Go.RowKit
set_option linter.unusedVariables false
set_option linter.unusedSimpArgs false
attribute [local go_sem ↓] Go.wp_at_zero Go.wp_at_succ
/-- No two of a part are the same. -/
def Dif (a b : Nat) (D : Nat → Nat) : Prop := ∀ x y, a ≤ x → x < b → a ≤ y → y < b → D x = D y → x = y
def Asn (a b : Nat) (D : Nat → Nat) : Prop := ∀ x y, a ≤ x → x < y → y < b → D x < D y
structure Half2 (a i j : Nat) (D : Nat → Nat) : Prop where
  srt : ∀ x y, a ≤ x → x < y → y ≤ i → x ≠ j → y ≠ j → D x < D y
  low : ∀ y, j < y → y ≤ i → D j < D y
theorem Half2.step {a i k : Nat} {D : Nat → Nat} (h : Half2 a i (k + 1) D) (hk : a ≤ k) (hki : k + 1 ≤ i) (hlt : D (k + 1) < D k) : Half2 a i k (sw D (k + 1) k) := by
  refine ⟨fun x y h1 h2 h3 h4 h5 => ?_, fun y h1 h2 => ?_⟩
  · rw [sw_at, sw_at, if_neg h4, if_neg h5]
    by_cases e1 : x = k + 1
    · rw [if_pos e1, if_neg (by omega)]
      exact h.srt k y hk (by omega) h3 (by omega) (by omega)
    · rw [if_neg e1]
      by_cases e2 : y = k + 1
      · rw [if_pos e2]
        exact h.srt x k h1 (by omega) (by omega) e1 (by omega)
      · rw [if_neg e2]
        exact h.srt x y h1 h2 h3 e1 e2
  · rw [sw_at, sw_at, if_pos rfl, if_neg (by omega)]
    by_cases e : y = k + 1
    · rw [if_pos e]; exact hlt
    · rw [if_neg e]; exact h.low y (by omega) h2
theorem Half2.done {a b i j : Nat} {D : Nat → Nat} (h : Half2 a i j D) (hd : Dif a b D) (hib : i < b) (haj : a ≤ j) (hji : j ≤ i) (hj : j = a ∨ ¬ D j < D (j - 1)) : Asn a (i + 1) D := by
  intro x y h1 h2 h3
  by_cases e1 : x = j
  · subst e1; exact h.low y h2 (by omega)
  · by_cases e2 : y = j
    · subst e2
      rcases hj with q | q
      · omega
      · have hne : D (y - 1) ≠ D y := fun e => by have := hd _ _ (by omega) (by omega) (by omega) (by omega) e; omega
        by_cases e3 : x = y - 1
        · subst e3; omega
        · have := h.srt x (y - 1) h1 (by omega) (by omega) e1 (by omega); omega
    · exact h.srt x y h1 h2 (by omega) e1 e2
set_option maxRecDepth 100000 in
set_option maxHeartbeats 4000000 in
theorem insert_ok (W : World) (r cap n : Nat) (D : Nat → Nat) (a b : Nat) (h : RowU W r cap n D) (hab : a ≤ b) (hb : b ≤ n) (hn : n ≤ 100000) (hdif : Dif a b D) :
    Calls Try.prog 66 #[.slice (some ⟨r, 0, none⟩) n cap, .int .i64 (a : Int), .int .i64 (b : Int)] W fun e w' => e = .returned (.tuple #[]) ∧ ∃ D', RowU w' r cap n D' ∧ Prm a b D D' ∧ Asn a b D' ∧ Fr (fun k => k = r) W w' := by
  have HL := veil (fun x y W => less_ok x y W)
  have HI0 := veil hdif
  have H0 := veil h
  clear h hdif
  go_enter Try.func66, Try.ntmps66
  go_wp2
  go_loopw [6] (fun iv wr => ∃ (i : Nat) (D' : Nat → Nat), a + 1 ≤ i ∧ (i ≤ b ∨ i = a + 1) ∧ iv = .int .i64 (i : Int) ∧ RowU wr r cap n D' ∧ Prm a b D D' ∧ Asn a i D' ∧ Fr (fun k => k = r) W wr) (fun iv _ => b - (intOf iv).toNat)
  case atStart => exact ⟨a + 1, D, by omega, .inr rfl, by go_num, H0.out, Prm.refl _ _ _, fun x y h1 h2 h3 => by omega, Fr.refl _ _⟩
  case round =>
    obtain ⟨i, D1, h1, h2, rfl, hrow, hprm, hsrt, hfr⟩ := hrel
    by_cases hin : i < b
    · have hin' : (i : Int) < (b : Int) := by omega
      have HF0 := veil hfr
      have HH : Hid (Half2 a i i D1) := ⟨fun x y q1 q2 q3 q4 q5 => hsrt x y q1 q2 (by omega), fun y q1 q2 => by omega⟩
      have HRw := veil hrow
      have HPr := veil hprm
      clear hrow hprm hsrt hfr H0
      go_wp2
      go_loopw [7] (fun jv wq => ∃ (j : Nat) (D2 : Nat → Nat), a ≤ j ∧ j ≤ i ∧ jv = .int .i64 (j : Int) ∧ RowU wq r cap n D2 ∧ Prm a b D D2 ∧ Half2 a i j D2 ∧ Fr (fun k => k = r) W wq) (fun jv _ => (intOf jv).toNat)
      case atStart => exact ⟨i, D1, by omega, by omega, rfl, HRw.out, HPr.out, HH.out, HF0.out⟩
      case round =>
        obtain ⟨j, D2, haj, hji, rfl, hrow, hprm, hh, hfr⟩ := hrel
        clear HRw HH HF0 HPr
        by_cases hj0 : j = a
        · have hd := hh.done (hprm.inj HI0.out) hin haj hji (.inl hj0)
          have HD := veil hd
          have HRw := veil hrow
          have HPr := veil hprm
          have HFr := veil hfr
          have hg : ¬ (a : Int) < (j : Int) := by omega
          clear hd hh hfr hprm
          go_wp2
          go_quiet (fail)
          go_wp2
          go_roundw
          case rel => exact ⟨i + 1, D2, by omega, .inl (by omega), by go_num, HRw.out.kept rfl, HPr.out, HD.out, HFr.out.drewN _⟩
          case measure => simp [intOf]; omega
        · obtain ⟨k, rfl⟩ : ∃ k, j = k + 1 := ⟨j - 1, by omega⟩
          have c1 := hrow.cell (k + 1) (by omega)
          have c0 := hrow.cell k (by omega)
          have fz := hrow.frozen
          have hjv : ((k + 1 : Nat) : Int) = (k : Int) + 1 := by omega
          rw [hjv]
          have hk1 : k + 1 < n := by omega
          have hk0 : k < n := by omega
          have hkb : k ≤ 100000 := by omega
          have hg0 : decide ((a : Int) < (k : Int) + 1) = true := decide_eq_true (by omega)
          have hg1 : (a : Int) < (k : Int) + 1 := by omega
          have hx1 : (k : Int) + 1 < (n : Int) := by omega
          have hx0 : (k : Int) < (n : Int) := by omega
          have hx2 : (0 : Int) ≤ (k : Int) + 1 := by omega
          have hx3 : (0 : Int) ≤ (k : Int) := by omega
          have hx4 : ((k : Int) + 1).toNat = k + 1 := by omega
          have hx5 : IntKind.i64.wrap ((k : Int) + 1 - 1) = (k : Int) := by simp [IntKind.wrap, IntKind.bits, IntKind.signed]; omega
          have hx6 : IntKind.i64.wrap (k : Int) = (k : Int) := by simp [IntKind.wrap, IntKind.bits, IntKind.signed]; omega
          have hdn := fun q => hh.done (hprm.inj HI0.out) hin haj hji (.inr q)
          have hst := fun q => hh.step (by omega) hji q
          have HDN := veil hdn
          have HST := veil hst
          have HRw := veil hrow
          have HPr := veil hprm
          have HFr := veil hfr
          have HLs := veil (fun W => HL.out (D2 (k + 1) : Int) (D2 k : Int) W)
          have hlts := hrow.lt
          have hka : a ≤ k := by omega
          clear hdn hst hh hfr hj0 hjv HL hrow hprm
          by_cases hlt : D2 (k + 1) < D2 k
          · have hlt' : decide ((D2 (k + 1) : Int) < (D2 k : Int)) = true := by simp; omega
            rw [hlt'] at HLs
            go_wp2
            go_region_held3 (fun w' => w'.cell? ⟨r, k + 1, none⟩ = some (.int .u64 (D2 (k + 1) : Int)) ∧ w'.cell? ⟨r, k, none⟩ = some (.int .u64 (D2 k : Int))) (go_keep)
              (first
                | (go_at_call 72; refine (HLs.out _).mono ?_; rintro e w1 ⟨rfl, hw⟩; subst hw))
            go_wp2
            go_region
            go_wp2
            go_roundw
            case rel =>
              refine ⟨k, sw D2 (k + 1) k, hka, by omega, rfl, ?_, HPr.out.trans (Prm.swap (by omega) (by omega)), HST.out (by simpa using hlt), ?_⟩
              · exact RowU.kept (HRw.out.swap (k + 1) k (by omega) (by omega)) rfl
              · exact (((HFr.out.setCell (a := ⟨r, k + 1, none⟩) rfl _).setCell (a := ⟨r, k, none⟩) rfl _).drew).drew
            case measure => simp [intOf]
          · have hlt' : decide ((D2 (k + 1) : Int) < (D2 k : Int)) = false := by simp; omega
            rw [hlt'] at HLs
            have HD := veil (HDN.out (by simpa using hlt))
            go_wp2
            go_region_held3 (fun w' => w'.cell? ⟨r, k + 1, none⟩ = some (.int .u64 (D2 (k + 1) : Int)) ∧ w'.cell? ⟨r, k, none⟩ = some (.int .u64 (D2 k : Int))) (go_keep)
              (first
                | (go_at_call 72; refine (HLs.out _).mono ?_; rintro e w1 ⟨rfl, hw⟩; subst hw))
            go_wp2
            go_roundw
            case rel => exact ⟨i + 1, D2, by omega, .inl (by omega), by go_num, HRw.out.kept rfl, HPr.out, HD.out, HFr.out.drew⟩
            case measure => simp [intOf]; omega
    · have hin' : ¬ (i : Int) < (b : Int) := by omega
      have HE := veil (And.intro hrow (And.intro hprm (And.intro (fun x y (q0 : a ≤ x) (q1 : x < y) (q2 : y < b) => hsrt x y q0 q1 (by omega)) hfr)))
      clear hrow hprm hsrt hfr H0 HI0
      go_wp2
      go_end0
      exact ⟨rfl, D1, HE.out⟩
end Go.Proofs.Ytjmbadadelelfaa
