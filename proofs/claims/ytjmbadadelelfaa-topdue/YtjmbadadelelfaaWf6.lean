/- partitionOrdered. -/
import Derived.Test.YtjmbadadelelfaaWf5
import Derived.Deep.DeepCutAuto
namespace Go.Proofs.Ytjmbadadelelfaa
open Go.RowKit
set_option linter.unusedVariables false
set_option linter.unusedSimpArgs false
attribute [local go_sem ↓] Go.wp_at_zero Go.wp_at_succ
/-- What stands left of i is below P, what stands right of j is not. -/
structure Part (a b i j P : Nat) (D : Nat → Nat) : Prop where
  a1 : a + 1 ≤ i
  ij : i ≤ j + 1
  jb : j < b
  pv : D a = P
  lo : ∀ x, a < x → x < i → D x < P
  hi : ∀ x, j < x → x < b → P ≤ D x
/-- The pivot's place. -/
structure Res (a b m : Nat) (D : Nat → Nat) : Prop where
  am : a ≤ m
  mb : m < b
  lo : ∀ x, a ≤ x → x < m → D x < D m
  hi : ∀ x, m < x → x < b → D m < D x
section
variable {a b i j P : Nat} {D : Nat → Nat}
theorem Part.left (h : Part a b i j P D) (hij : i ≤ j) (hl : D i < P) : Part a b (i + 1) j P D := ⟨by have := h.a1; omega, by omega, h.jb, h.pv, fun x h1 h2 => by
  by_cases e : x = i
  · rw [e]; exact hl
  · exact h.lo x h1 (by omega), h.hi⟩
theorem Part.right (h : Part a b i j P D) (hij : i ≤ j) (hl : ¬ D j < P) : Part a b i (j - 1) P D := by
  have h1 := h.a1
  have h2 := h.jb
  refine ⟨h.a1, by omega, by omega, h.pv, h.lo, fun x q1 q2 => ?_⟩
  by_cases e : x = j
  · rw [e]; omega
  · exact h.hi x (by omega) q2
theorem Part.swap (h : Part a b i j P D) (hij : i ≤ j) (h1 : ¬ D i < P) (h2 : D j < P) : i < j ∧ Part a b (i + 1) (j - 1) P (sw D i j) := by
  have hne : i ≠ j := fun e => by rw [e] at h1; exact h1 h2
  have g1 := h.a1
  have g2 := h.jb
  refine ⟨by omega, by omega, by omega, by omega, ?_, fun x q1 q2 => ?_, fun x q1 q2 => ?_⟩
  · rw [sw_at, if_neg (by omega), if_neg (by omega)]; exact h.pv
  · rw [sw_at, if_neg (by omega)]
    by_cases e : x = i
    · rw [if_pos e]; exact h2
    · rw [if_neg e]; exact h.lo x q1 (by omega)
  · rw [sw_at]
    by_cases e : x = j
    · rw [if_pos e]; omega
    · rw [if_neg e, if_neg (by omega)]; exact h.hi x (by omega) q2
theorem Part.fin (h : Part a b i j P D) (hij : j < i) (hd : Dif a b D) : Res a b j (sw D j a) := by
  have g1 := h.a1
  have g2 := h.jb
  have g3 := h.ij
  have ej : sw D j a j = P := by
    rw [sw_at]
    by_cases e : j = a
    · rw [if_pos e, e]; exact h.pv
    · rw [if_neg e, if_pos rfl]; exact h.pv
  refine ⟨by omega, g2, fun x q1 q2 => ?_, fun x q1 q2 => ?_⟩
  · rw [ej, sw_at]
    by_cases e : x = a
    · rw [if_pos e]; exact h.lo j (by omega) (by omega)
    · rw [if_neg e, if_neg (by omega)]; exact h.lo x (by omega) (by omega)
  · rw [ej, sw_at, if_neg (by omega), if_neg (by omega)]
    have h1 := h.hi x q1 q2
    have h2 : P ≠ D x := fun e => by
      have := hd a x (by omega) (by omega) (by omega) q2 (by rw [h.pv]; exact e)
      omega
    omega
end
set_option maxRecDepth 100000 in
set_option maxHeartbeats 8000000 in
theorem partition_ok (W : World) (r cap n : Nat) (D : Nat → Nat) (a b p : Nat) (h : RowU W r cap n D) (hap : a ≤ p) (hpb : p < b) (hb : b ≤ n) (hn : n ≤ 100000) (hdif : Dif a b D) :
    Calls Try.prog 74 #[.slice (some ⟨r, 0, none⟩) n cap, .int .i64 (a : Int), .int .i64 (b : Int), .int .i64 (p : Int)] W fun e w' => ∃ (m : Nat) (t : Bool) (D' : Nat → Nat), e = .returned (.tuple #[.int .i64 (m : Int), .bool t]) ∧ RowU w' r cap n D' ∧ Prm a b D D' ∧ Res a b m D' ∧ Fr (fun k => k = r) W w' := by
  have HL := veil (fun x y W => less_ok x y W)
  have ca := h.cell a (by omega)
  have cp := h.cell p (by omega)
  have fz := h.frozen
  have hlts := h.lt
  have ka : (a : Int) < (n : Int) := by omega
  have kp : (p : Int) < (n : Int) := by omega
  have H0 := veil h
  have HI0 := veil hdif
  clear h hdif
  go_enter Try.func74, Try.ntmps74
  go_upto_region 1 with fail
  go_cut [] (fun Wc => ∃ D1, RowU Wc r cap n D1 ∧ Prm a b D D1 ∧ Fr (fun k => k = r) W Wc)
  case first =>
    by_cases hpa : p = a
    · subst hpa
      go_region
      go_wp2
      go_meet
      exact ⟨sw D p p, RowU.kept (H0.out.swap p p (by omega) (by omega)) rfl, Prm.swap (by omega) (by omega), (((Fr.refl (fun k => k = r) W).setCell (a := ⟨r, p, none⟩) rfl _).setCell (a := ⟨r, p, none⟩) rfl _).drew⟩
    · have hap2 : ¬ a = p := fun e => hpa e.symm
      go_region
      go_wp2
      go_meet
      exact ⟨sw D a p, RowU.kept (H0.out.swap a p (by omega) (by omega)) rfl, Prm.swap (by omega) (by omega), (((Fr.refl (fun k => k = r) W).setCell (a := ⟨r, a, none⟩) rfl _).setCell (a := ⟨r, p, none⟩) rfl _).drew⟩
  obtain ⟨D1, hrow, hprm, hfr⟩ := hcut
  clear H0 ca cp fz hlts
  obtain ⟨P, hP⟩ : ∃ P, D1 a = P := ⟨_, rfl⟩
  obtain ⟨i0, hi0⟩ : ∃ i0 : Nat, (a : Int) + 1 = (i0 : Int) := ⟨a + 1, by omega⟩
  obtain ⟨j, hj0⟩ : ∃ j : Nat, (b : Int) - 1 = (j : Int) := ⟨b - 1, by omega⟩
  have HPt : Hid (Part a b i0 j P D1) := ⟨by omega, by omega, by omega, hP, fun x h1 h2 => by omega, fun x h1 h2 => by omega⟩
  have HRw := veil hrow
  have HPr := veil hprm
  have HFr := veil hfr
  clear hrow hprm hfr hP
  go_wp2
  clear hi0 hj0
  obtain ⟨io, hio⟩ : ∃ io, io = i0 := ⟨_, rfl⟩
  go_loopw [10] (fun xv wr => ∃ (i : Nat), xv = .int .i64 (i : Int) ∧ RowU wr r cap n D1 ∧ Part a b i j P D1 ∧ io ≤ i ∧ Fr (fun k => k = r) W wr) (fun xv _ => b + 1 - (intOf xv).toNat)
  case atStart => exact ⟨_, rfl, HRw.out, HPt.out, Nat.le_of_eq hio, HFr.out⟩
  case round =>
    obtain ⟨i, rfl, hrow, hpt, hjj, hfr⟩ := hrel
    clear HRw HPt HFr
    have g1 := hpt.a1
    have g2 := hpt.ij
    have g3 := hpt.jb
    have HRw := veil hrow
    have HFr := veil hfr
    have HPt := veil hpt
    clear hrow hfr hpt
    go_wp2
    go_cut [43] from 30 to 45 (fun s Wc => s = .bool (decide (i ≤ j) && decide (D1 i < P)) ∧ RowU Wc r cap n D1 ∧ Fr (fun k => k = r) W Wc)
    case first =>
      by_cases hij : i ≤ j
      · have hij' : (i : Int) ≤ (j : Int) := by omega
        have hijd : decide ((i : Int) ≤ (j : Int)) = true := decide_eq_true hij'
        have fz := HRw.out.frozen
        have hlts := HRw.out.lt
        have ca : wr.cell? ⟨r, a, none⟩ = some (.int .u64 (P : Int)) := by rw [← HPt.out.pv]; exact HRw.out.cell a (by omega)
        have ci := HRw.out.cell i (by omega)
        have ki : (i : Int) < (n : Int) := by omega
        have HLs := veil (fun W => HL.out (D1 i : Int) (P : Int) W)
        by_cases hlt : D1 i < P
        · have hlt' : decide ((D1 i : Int) < (P : Int)) = true := by simp; omega
          rw [hlt'] at HLs
          have hqq : (decide (i ≤ j) && decide (D1 i < P)) = true := by simp [hij, hlt]
          go_region_held3 (fun w' => w'.cell? ⟨r, i, none⟩ = some (.int .u64 (D1 i : Int)) ∧ w'.cell? ⟨r, a, none⟩ = some (.int .u64 (P : Int))) (go_keep)
            (first | (go_at_call 72; refine (HLs.out _).mono ?_; rintro e w1 ⟨rfl, hw⟩; subst hw))
          go_wp2
          go_meet
          exact ⟨by rw [hqq], HRw.out.kept rfl, HFr.out.drew⟩
        · have hlt' : decide ((D1 i : Int) < (P : Int)) = false := by simp; omega
          rw [hlt'] at HLs
          have hqq : (decide (i ≤ j) && decide (D1 i < P)) = false := by simp [hij, hlt]
          go_region_held3 (fun w' => w'.cell? ⟨r, i, none⟩ = some (.int .u64 (D1 i : Int)) ∧ w'.cell? ⟨r, a, none⟩ = some (.int .u64 (P : Int))) (go_keep)
            (first | (go_at_call 72; refine (HLs.out _).mono ?_; rintro e w1 ⟨rfl, hw⟩; subst hw))
          go_wp2
          go_meet
          exact ⟨by rw [hqq], HRw.out.kept rfl, HFr.out.drew⟩
      · have hij' : ¬ (i : Int) ≤ (j : Int) := by omega
        have hqq : (decide (i ≤ j) && decide (D1 i < P)) = false := by simp [hij]
        go_quiet (fail)
        go_wp2
        go_meet
        exact ⟨by rw [hqq], HRw.out.kept rfl, HFr.out.drewN _⟩
    obtain ⟨rfl, hrow, hfr⟩ := hcut
    clear HRw HFr
    have HRw := veil hrow
    have HFr := veil hfr
    clear hrow hfr
    cases hq : (decide (i ≤ j) && decide (D1 i < P)) with
    | true =>
      have hq1 : i ≤ j ∧ D1 i < P := by simpa using hq
      have HNX := veil (HPt.out.left hq1.1 hq1.2)
      clear hq
      go_wp2
      go_roundw
      case rel =>
        exact ⟨i + 1, by go_num, HRw.out, HNX.out, by omega, HFr.out⟩
      case measure => simp [intOf]; omega
    | false =>
      have hq1 : i ≤ j → ¬ D1 i < P := by simpa using hq
      have HExL := veil hq1
      clear hq hq1
      obtain ⟨jo, hjo⟩ : ∃ jo, jo = j := ⟨_, rfl⟩
      have HExL2 : Hid (i ≤ jo → ¬ D1 i < P) := by rw [hjo]; exact HExL.out
      clear HExL
      have HExL := HExL2
      clear HExL2
      go_wp2
      go_loopw [11] (fun xv wr => ∃ (j : Nat), xv = .int .i64 (j : Int) ∧ RowU wr r cap n D1 ∧ Part a b i j P D1 ∧ j ≤ jo ∧ Fr (fun k => k = r) W wr) (fun xv _ => (intOf xv).toNat)
      case atStart => exact ⟨_, rfl, HRw.out, HPt.out, Nat.le_of_eq hjo.symm, HFr.out⟩
      case round =>
        obtain ⟨j, rfl, hrow, hpt, hjj, hfr⟩ := hrel
        clear HRw HPt HFr
        have g1 := hpt.a1
        have g2 := hpt.ij
        have g3 := hpt.jb
        have HRw := veil hrow
        have HFr := veil hfr
        have HPt := veil hpt
        clear hrow hfr hpt
        go_wp2
        go_cut [60] from 46 to 62 (fun s Wc => s = .bool (decide (i ≤ j) && !decide (D1 j < P)) ∧ RowU Wc r cap n D1 ∧ Fr (fun k => k = r) W Wc)
        case first =>
          by_cases hij : i ≤ j
          · have hij' : (i : Int) ≤ (j : Int) := by omega
            have hijd : decide ((i : Int) ≤ (j : Int)) = true := decide_eq_true hij'
            have fz := HRw.out.frozen
            have hlts := HRw.out.lt
            have ca : wr.cell? ⟨r, a, none⟩ = some (.int .u64 (P : Int)) := by rw [← HPt.out.pv]; exact HRw.out.cell a (by omega)
            have ci := HRw.out.cell j (by omega)
            have ki : (j : Int) < (n : Int) := by omega
            have HLs := veil (fun W => HL.out (D1 j : Int) (P : Int) W)
            by_cases hlt : D1 j < P
            · have hlt' : decide ((D1 j : Int) < (P : Int)) = true := by simp; omega
              rw [hlt'] at HLs
              have hqq : (decide (i ≤ j) && !decide (D1 j < P)) = false := by simp [hij, hlt]
              go_region_held3 (fun w' => w'.cell? ⟨r, j, none⟩ = some (.int .u64 (D1 j : Int)) ∧ w'.cell? ⟨r, a, none⟩ = some (.int .u64 (P : Int))) (go_keep)
                (first | (go_at_call 72; refine (HLs.out _).mono ?_; rintro e w1 ⟨rfl, hw⟩; subst hw))
              go_wp2
              go_meet
              exact ⟨by rw [hqq], HRw.out.kept rfl, HFr.out.drew⟩
            · have hlt' : decide ((D1 j : Int) < (P : Int)) = false := by simp; omega
              rw [hlt'] at HLs
              have hqq : (decide (i ≤ j) && !decide (D1 j < P)) = true := by simp [hij, hlt]
              go_region_held3 (fun w' => w'.cell? ⟨r, j, none⟩ = some (.int .u64 (D1 j : Int)) ∧ w'.cell? ⟨r, a, none⟩ = some (.int .u64 (P : Int))) (go_keep)
                (first | (go_at_call 72; refine (HLs.out _).mono ?_; rintro e w1 ⟨rfl, hw⟩; subst hw))
              go_wp2
              go_meet
              exact ⟨by rw [hqq], HRw.out.kept rfl, HFr.out.drew⟩
          · have hij' : ¬ (i : Int) ≤ (j : Int) := by omega
            have hqq : (decide (i ≤ j) && !decide (D1 j < P)) = false := by simp [hij]
            go_quiet (fail)
            go_wp2
            go_meet
            exact ⟨by rw [hqq], HRw.out.kept rfl, HFr.out.drewN _⟩
        obtain ⟨rfl, hrow, hfr⟩ := hcut
        clear HRw HFr
        have HRw := veil hrow
        have HFr := veil hfr
        clear hrow hfr
        cases hq : (decide (i ≤ j) && !decide (D1 j < P)) with
        | true =>
          have hq1 : i ≤ j ∧ ¬ D1 j < P := by simpa using hq
          have HNX := veil (HPt.out.right hq1.1 hq1.2)
          clear hq
          go_wp2
          go_roundw
          case rel =>
            exact ⟨j - 1, by rw [show ((j - 1 : Nat) : Int) = (j : Int) - 1 by omega], HRw.out, HNX.out, by omega, HFr.out⟩
          case measure => simp [intOf]; omega
        | false =>
          have hq1 : i ≤ j → D1 j < P := by simpa using hq
          have HExR := veil hq1
          clear hq hq1
          by_cases hij : i ≤ j
          · have hij' : (i : Int) ≤ (j : Int) := by omega
            have hij2 : ¬ (j : Int) < (i : Int) := by omega
            obtain ⟨hlt, hnx⟩ := HPt.out.swap hij (HExL.out (by omega)) (HExR.out hij)
            have fz := HRw.out.frozen
            have hlts := HRw.out.lt
            have ci := HRw.out.cell i (by omega)
            have cj := HRw.out.cell j (by omega)
            have ki : (i : Int) < (n : Int) := by omega
            have kj : (j : Int) < (n : Int) := by omega
            have hne : ¬ i = j := by omega
            have hne2 : ¬ j = i := by omega
            have HNX := veil hnx
            have HPr9 : Hid (Prm a b D (sw D1 i j)) := HPr.out.trans (Prm.swap (by omega) (by omega))
            have HRs : Hid (RowU _ r cap n (sw D1 i j)) := HRw.out.swap i j (by omega) (by omega)
            clear hnx HPt HExL HExR
            go_wp2
            go_region
            go_wp2
            clear fz ci cj
            go_loopw [10, 11] (fun iv jv wr => ∃ (i j : Nat) (D2 : Nat → Nat), iv = .int .i64 (i : Int) ∧ jv = .int .i64 (j : Int) ∧ RowU wr r cap n D2 ∧ Prm a b D D2 ∧ Part a b i j P D2 ∧ Fr (fun k => k = r) W wr) (fun iv jv _ => (intOf jv + 1 - intOf iv).toNat)
            case atStart => exact ⟨i + 1, j - 1, sw D1 i j, by go_num, by rw [show ((j - 1 : Nat) : Int) = (j : Int) - 1 by omega], HRs.out.kept rfl, HPr9.out, HNX.out, ((HFr.out.setCell (a := ⟨r, i, none⟩) rfl _).setCell (a := ⟨r, j, none⟩) rfl _).drew⟩
            case round =>
              obtain ⟨i, j, D2, rfl, rfl, hrow, hprm, hpt, hfr⟩ := hrel
              clear HRs HPr9 HNX HFr HRw HPr
              have HRw := veil hrow
              have HFr := veil hfr
              have HPt := veil hpt
              have HPr2 := veil hprm
              clear hrow hfr hpt hprm
              obtain ⟨io, hio⟩ : ∃ io, io = i := ⟨_, rfl⟩
              go_wp2
              go_loopw [10] (fun xv wr => ∃ (i : Nat), xv = .int .i64 (i : Int) ∧ RowU wr r cap n D2 ∧ Part a b i j P D2 ∧ io ≤ i ∧ Fr (fun k => k = r) W wr) (fun xv _ => b + 1 - (intOf xv).toNat)
              case atStart => exact ⟨_, rfl, HRw.out, HPt.out, Nat.le_of_eq hio, HFr.out⟩
              case round =>
                obtain ⟨i, rfl, hrow, hpt, hjj, hfr⟩ := hrel
                clear HRw HPt HFr
                have g1 := hpt.a1
                have g2 := hpt.ij
                have g3 := hpt.jb
                have HRw := veil hrow
                have HFr := veil hfr
                have HPt := veil hpt
                clear hrow hfr hpt
                go_wp2
                go_cut [112] from 99 to 114 (fun s Wc => s = .bool (decide (i ≤ j) && decide (D2 i < P)) ∧ RowU Wc r cap n D2 ∧ Fr (fun k => k = r) W Wc)
                case first =>
                  by_cases hij : i ≤ j
                  · have hij' : (i : Int) ≤ (j : Int) := by omega
                    have hijd : decide ((i : Int) ≤ (j : Int)) = true := decide_eq_true hij'
                    have fz := HRw.out.frozen
                    have hlts := HRw.out.lt
                    have ca : wr.cell? ⟨r, a, none⟩ = some (.int .u64 (P : Int)) := by rw [← HPt.out.pv]; exact HRw.out.cell a (by omega)
                    have ci := HRw.out.cell i (by omega)
                    have ki : (i : Int) < (n : Int) := by omega
                    have HLs := veil (fun W => HL.out (D2 i : Int) (P : Int) W)
                    by_cases hlt : D2 i < P
                    · have hlt' : decide ((D2 i : Int) < (P : Int)) = true := by simp; omega
                      rw [hlt'] at HLs
                      have hqq : (decide (i ≤ j) && decide (D2 i < P)) = true := by simp [hij, hlt]
                      go_region_held3 (fun w' => w'.cell? ⟨r, i, none⟩ = some (.int .u64 (D2 i : Int)) ∧ w'.cell? ⟨r, a, none⟩ = some (.int .u64 (P : Int))) (go_keep)
                        (first | (go_at_call 72; refine (HLs.out _).mono ?_; rintro e w1 ⟨rfl, hw⟩; subst hw))
                      go_wp2
                      go_meet
                      exact ⟨by rw [hqq], HRw.out.kept rfl, HFr.out.drew⟩
                    · have hlt' : decide ((D2 i : Int) < (P : Int)) = false := by simp; omega
                      rw [hlt'] at HLs
                      have hqq : (decide (i ≤ j) && decide (D2 i < P)) = false := by simp [hij, hlt]
                      go_region_held3 (fun w' => w'.cell? ⟨r, i, none⟩ = some (.int .u64 (D2 i : Int)) ∧ w'.cell? ⟨r, a, none⟩ = some (.int .u64 (P : Int))) (go_keep)
                        (first | (go_at_call 72; refine (HLs.out _).mono ?_; rintro e w1 ⟨rfl, hw⟩; subst hw))
                      go_wp2
                      go_meet
                      exact ⟨by rw [hqq], HRw.out.kept rfl, HFr.out.drew⟩
                  · have hij' : ¬ (i : Int) ≤ (j : Int) := by omega
                    have hqq : (decide (i ≤ j) && decide (D2 i < P)) = false := by simp [hij]
                    go_quiet (fail)
                    go_wp2
                    go_meet
                    exact ⟨by rw [hqq], HRw.out.kept rfl, HFr.out.drewN _⟩
                obtain ⟨rfl, hrow, hfr⟩ := hcut
                clear HRw HFr
                have HRw := veil hrow
                have HFr := veil hfr
                clear hrow hfr
                cases hq : (decide (i ≤ j) && decide (D2 i < P)) with
                | true =>
                  have hq1 : i ≤ j ∧ D2 i < P := by simpa using hq
                  have HNX := veil (HPt.out.left hq1.1 hq1.2)
                  clear hq
                  go_wp2
                  go_roundw
                  case rel =>
                    exact ⟨i + 1, by go_num, HRw.out, HNX.out, by omega, HFr.out⟩
                  case measure => simp [intOf]; omega
                | false =>
                  have hq1 : i ≤ j → ¬ D2 i < P := by simpa using hq
                  have HExL := veil hq1
                  clear hq hq1
                  obtain ⟨jo, hjo⟩ : ∃ jo, jo = j := ⟨_, rfl⟩
                  have HExL2 : Hid (i ≤ jo → ¬ D2 i < P) := by rw [hjo]; exact HExL.out
                  clear HExL
                  have HExL := HExL2
                  clear HExL2
                  go_wp2
                  go_loopw [11] (fun xv wr => ∃ (j : Nat), xv = .int .i64 (j : Int) ∧ RowU wr r cap n D2 ∧ Part a b i j P D2 ∧ j ≤ jo ∧ Fr (fun k => k = r) W wr) (fun xv _ => (intOf xv).toNat)
                  case atStart => exact ⟨_, rfl, HRw.out, HPt.out, Nat.le_of_eq hjo.symm, HFr.out⟩
                  case round =>
                    obtain ⟨j, rfl, hrow, hpt, hjj, hfr⟩ := hrel
                    clear HRw HPt HFr
                    have g1 := hpt.a1
                    have g2 := hpt.ij
                    have g3 := hpt.jb
                    have HRw := veil hrow
                    have HFr := veil hfr
                    have HPt := veil hpt
                    clear hrow hfr hpt
                    go_wp2
                    go_cut [129] from 115 to 131 (fun s Wc => s = .bool (decide (i ≤ j) && !decide (D2 j < P)) ∧ RowU Wc r cap n D2 ∧ Fr (fun k => k = r) W Wc)
                    case first =>
                      by_cases hij : i ≤ j
                      · have hij' : (i : Int) ≤ (j : Int) := by omega
                        have hijd : decide ((i : Int) ≤ (j : Int)) = true := decide_eq_true hij'
                        have fz := HRw.out.frozen
                        have hlts := HRw.out.lt
                        have ca : wr.cell? ⟨r, a, none⟩ = some (.int .u64 (P : Int)) := by rw [← HPt.out.pv]; exact HRw.out.cell a (by omega)
                        have ci := HRw.out.cell j (by omega)
                        have ki : (j : Int) < (n : Int) := by omega
                        have HLs := veil (fun W => HL.out (D2 j : Int) (P : Int) W)
                        by_cases hlt : D2 j < P
                        · have hlt' : decide ((D2 j : Int) < (P : Int)) = true := by simp; omega
                          rw [hlt'] at HLs
                          have hqq : (decide (i ≤ j) && !decide (D2 j < P)) = false := by simp [hij, hlt]
                          go_region_held3 (fun w' => w'.cell? ⟨r, j, none⟩ = some (.int .u64 (D2 j : Int)) ∧ w'.cell? ⟨r, a, none⟩ = some (.int .u64 (P : Int))) (go_keep)
                            (first | (go_at_call 72; refine (HLs.out _).mono ?_; rintro e w1 ⟨rfl, hw⟩; subst hw))
                          go_wp2
                          go_meet
                          exact ⟨by rw [hqq], HRw.out.kept rfl, HFr.out.drew⟩
                        · have hlt' : decide ((D2 j : Int) < (P : Int)) = false := by simp; omega
                          rw [hlt'] at HLs
                          have hqq : (decide (i ≤ j) && !decide (D2 j < P)) = true := by simp [hij, hlt]
                          go_region_held3 (fun w' => w'.cell? ⟨r, j, none⟩ = some (.int .u64 (D2 j : Int)) ∧ w'.cell? ⟨r, a, none⟩ = some (.int .u64 (P : Int))) (go_keep)
                            (first | (go_at_call 72; refine (HLs.out _).mono ?_; rintro e w1 ⟨rfl, hw⟩; subst hw))
                          go_wp2
                          go_meet
                          exact ⟨by rw [hqq], HRw.out.kept rfl, HFr.out.drew⟩
                      · have hij' : ¬ (i : Int) ≤ (j : Int) := by omega
                        have hqq : (decide (i ≤ j) && !decide (D2 j < P)) = false := by simp [hij]
                        go_quiet (fail)
                        go_wp2
                        go_meet
                        exact ⟨by rw [hqq], HRw.out.kept rfl, HFr.out.drewN _⟩
                    obtain ⟨rfl, hrow, hfr⟩ := hcut
                    clear HRw HFr
                    have HRw := veil hrow
                    have HFr := veil hfr
                    clear hrow hfr
                    cases hq : (decide (i ≤ j) && !decide (D2 j < P)) with
                    | true =>
                      have hq1 : i ≤ j ∧ ¬ D2 j < P := by simpa using hq
                      have HNX := veil (HPt.out.right hq1.1 hq1.2)
                      clear hq
                      go_wp2
                      go_roundw
                      case rel =>
                        exact ⟨j - 1, by rw [show ((j - 1 : Nat) : Int) = (j : Int) - 1 by omega], HRw.out, HNX.out, by omega, HFr.out⟩
                      case measure => simp [intOf]; omega
                    | false =>
                      have hq1 : i ≤ j → D2 j < P := by simpa using hq
                      have HExR := veil hq1
                      clear hq hq1
                      by_cases hij : i ≤ j
                      · have hij' : (i : Int) ≤ (j : Int) := by omega
                        have hij2 : ¬ (j : Int) < (i : Int) := by omega
                        obtain ⟨hlt, hnx⟩ := HPt.out.swap hij (HExL.out (by omega)) (HExR.out hij)
                        have fz := HRw.out.frozen
                        have hlts := HRw.out.lt
                        have ci := HRw.out.cell i (by omega)
                        have cj := HRw.out.cell j (by omega)
                        have ki : (i : Int) < (n : Int) := by omega
                        have kj : (j : Int) < (n : Int) := by omega
                        have hne : ¬ i = j := by omega
                        have hne2 : ¬ j = i := by omega
                        have HNX := veil hnx
                        have HPr9 : Hid (Prm a b D (sw D2 i j)) := HPr2.out.trans (Prm.swap (by omega) (by omega))
                        have HRs : Hid (RowU _ r cap n (sw D2 i j)) := HRw.out.swap i j (by omega) (by omega)
                        clear hnx HPt HExL HExR
                        go_wp2
                        go_region
                        go_wp2
                        clear fz ci cj
                        go_roundw
                        case rel => exact ⟨i + 1, j - 1, sw D2 i j, by go_num, by rw [show ((j - 1 : Nat) : Int) = (j : Int) - 1 by omega], HRs.out.kept rfl, HPr9.out, HNX.out, ((HFr.out.setCell (a := ⟨r, i, none⟩) rfl _).setCell (a := ⟨r, j, none⟩) rfl _).drew⟩
                        case measure => simp [intOf]; omega
                      · have hij' : ¬ (i : Int) ≤ (j : Int) := by omega
                        have hij2 : (j : Int) < (i : Int) := by omega
                        have fz := HRw.out.frozen
                        have hlts := HRw.out.lt
                        have ca := HRw.out.cell a (by omega)
                        have cj := HRw.out.cell j (by omega)
                        have kj : (j : Int) < (n : Int) := by omega
                        have HFin : Hid (Res a b j (sw D2 j a)) := HPt.out.fin (by omega) (HPr2.out.inj HI0.out)
                        have HPr9 : Hid (Prm a b D (sw D2 j a)) := HPr2.out.trans (Prm.swap (by omega) (by omega))
                        have HRs : Hid (RowU _ r cap n (sw D2 j a)) := HRw.out.swap j a (by omega) (by omega)
                        by_cases hja : j = a
                        · subst hja
                          go_wp2
                          go_region
                          go_wp2
                          go_ret2
                          exact ⟨j, false, sw D2 j j, rfl, HRs.out.kept rfl, HPr9.out, HFin.out, ((HFr.out.setCell (a := ⟨r, j, none⟩) rfl _).setCell (a := ⟨r, j, none⟩) rfl _).drew⟩
                        · have hja2 : ¬ a = j := fun e => hja e.symm
                          go_wp2
                          go_region
                          go_wp2
                          go_ret2
                          exact ⟨j, false, sw D2 j a, rfl, HRs.out.kept rfl, HPr9.out, HFin.out, ((HFr.out.setCell (a := ⟨r, j, none⟩) rfl _).setCell (a := ⟨r, a, none⟩) rfl _).drew⟩
          · have hij' : ¬ (i : Int) ≤ (j : Int) := by omega
            have hij2 : (j : Int) < (i : Int) := by omega
            have fz := HRw.out.frozen
            have hlts := HRw.out.lt
            have ca := HRw.out.cell a (by omega)
            have cj := HRw.out.cell j (by omega)
            have kj : (j : Int) < (n : Int) := by omega
            have HFin : Hid (Res a b j (sw D1 j a)) := HPt.out.fin (by omega) (HPr.out.inj HI0.out)
            have HPr9 : Hid (Prm a b D (sw D1 j a)) := HPr.out.trans (Prm.swap (by omega) (by omega))
            have HRs : Hid (RowU _ r cap n (sw D1 j a)) := HRw.out.swap j a (by omega) (by omega)
            by_cases hja : j = a
            · subst hja
              go_wp2
              go_region
              go_wp2
              go_ret2
              exact ⟨j, true, sw D1 j j, rfl, HRs.out.kept rfl, HPr9.out, HFin.out, ((HFr.out.setCell (a := ⟨r, j, none⟩) rfl _).setCell (a := ⟨r, j, none⟩) rfl _).drew⟩
            · have hja2 : ¬ a = j := fun e => hja e.symm
              go_wp2
              go_region
              go_wp2
              go_ret2
              exact ⟨j, true, sw D1 j a, rfl, HRs.out.kept rfl, HPr9.out, HFin.out, ((HFr.out.setCell (a := ⟨r, j, none⟩) rfl _).setCell (a := ⟨r, a, none⟩) rfl _).drew⟩
end Go.Proofs.Ytjmbadadelelfaa
