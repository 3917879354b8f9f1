/- The program's small calls: hasThread, hasLock, Owner, Waits, may. -/
import Derived.Test.YtbhkgbhgofefjaaI1
namespace Go.Proofs.Ytbhkgbhgofefjaa
open Go.RowKit Go.Lib
set_option linter.unusedVariables false
def inT (T : List Th) (t : Int) : Bool := decide (0 ≤ t ∧ t < (T.length : Int))
def inL (L : List Lk) (m : Int) : Bool := decide (0 ≤ m ∧ m < (L.length : Int))
/-- Who holds; the lock that one waits for. -/
def ownerOf (L : List Lk) (m : Int) : Int := if inL L m then ((L[m.toNat]?).map (·.h)).getD (-1) else -1
def waitsOf (T : List Th) (t : Int) : Int := if inT T t then ((T[t.toNat]?).map (·.u)).getD (-1) else -1
/-- Why a thread may do nothing with a lock. -/
def mayE (T : List Th) (L : List Lk) (t m : Int) : Int := if inT T t && inL L m then if waitsOf T t = -1 then 0 else 11 else 2
section
variable {w : World} {base s : Nat} {vt vl : Value} {V : List Value} {T : List Th} {L : List Lk}
theorem hasT_ok (h : IsG w base s vt vl V T L) (t : Int) : Calls Try.prog 41 #[.pointer (some ⟨s, 0, none⟩), .int .i64 t] w fun e w' => e = .returned (.bool (inT T t)) ∧ w' = w := by
  obtain ⟨a, cap, rfl, _, _⟩ := form_of h.tho
  have c0 := h.c0
  clear h
  unfold inT
  by_cases h0 : 0 ≤ t
  · go_enter Try.func41, Try.ntmps41
    go_wp2
    go_ret
    exact ⟨by simp [h0], rfl⟩
  · go_enter Try.func41, Try.ntmps41
    go_wp2
    go_ret
    exact ⟨by simp; omega, rfl⟩
theorem hasL_ok (h : IsG w base s vt vl V T L) (t : Int) : Calls Try.prog 43 #[.pointer (some ⟨s, 0, none⟩), .int .i64 t] w fun e w' => e = .returned (.bool (inL L t)) ∧ w' = w := by
  obtain ⟨a, cap, rfl, _, _⟩ := form_of h.lko
  have c1 := h.c1
  clear h
  unfold inL
  by_cases h0 : 0 ≤ t
  · go_enter Try.func43, Try.ntmps43
    go_wp2
    go_ret
    exact ⟨by simp [h0], rfl⟩
  · go_enter Try.func43, Try.ntmps43
    go_wp2
    go_ret
    exact ⟨by simp; omega, rfl⟩
theorem inT_yes {t : Int} (h : inT T t = true) : ∃ (k : Nat) (x : Th), t = k ∧ k < T.length ∧ T[k]? = some x ∧ waitsOf T t = x.u := by
  have h' := h
  unfold inT at h'
  simp only [decide_eq_true_eq] at h'
  obtain ⟨k, rfl⟩ : ∃ k : Nat, t = k := ⟨t.toNat, by omega⟩
  have hk : k < T.length := by omega
  refine ⟨k, T[k], rfl, hk, List.getElem?_eq_getElem hk, ?_⟩
  unfold waitsOf
  rw [if_pos h, Int.toNat_natCast, List.getElem?_eq_getElem hk]
  rfl
theorem inL_yes {m : Int} (h : inL L m = true) : ∃ (k : Nat) (y : Lk), m = k ∧ k < L.length ∧ L[k]? = some y ∧ ownerOf L m = y.h := by
  have h' := h
  unfold inL at h'
  simp only [decide_eq_true_eq] at h'
  obtain ⟨k, rfl⟩ : ∃ k : Nat, m = k := ⟨m.toNat, by omega⟩
  have hk : k < L.length := by omega
  refine ⟨k, L[k], rfl, hk, List.getElem?_eq_getElem hk, ?_⟩
  unfold ownerOf
  rw [if_pos h, Int.toNat_natCast, List.getElem?_eq_getElem hk]
  rfl
theorem IsG.line (h : IsG w base s vt vl V T L) {k : Nat} (hk : k < L.length) : ∃ v, V[k]? = some v := ⟨_, List.getElem?_eq_getElem (by rw [h.vs]; exact hk)⟩
theorem owner_ok (h : IsG w base s vt vl V T L) (m : Int) : Calls Try.prog 18 #[.pointer (some ⟨s, 0, none⟩), .int .i64 m] w fun e w' => e = .returned (.int .i64 (ownerOf L m)) ∧ w' = w := by
  have HH := veil (hasL_ok h m)
  cases hm : inL L m with
  | true =>
    rw [hm] at HH
    obtain ⟨k, y, rfl, hk, hy, e⟩ := inL_yes hm
    rw [e]
    obtain ⟨v, hv⟩ := h.line hk
    obtain ⟨g, cap, rfl, hc1, hc2, hg, hgs, _, hc⟩ := h.lform (by omega)
    obtain ⟨y0, y1⟩ := hc k y v hy hv
    have c1 := h.c1
    have hk' : (k : Int) < (L.length : Int) := by omega
    clear h hc hm e
    go_enter Try.func18, Try.ntmps18
    go_wp2_with (go_at_call 43; refine (HH.out).mono ?_; rintro e w1 ⟨rfl, hw⟩; replace hw := hw.symm; subst hw)
    go_ret
    exact ⟨rfl, rfl⟩
  | false =>
    rw [hm] at HH
    have e : ownerOf L m = -1 := by unfold ownerOf; rw [hm]; rfl
    rw [e]
    clear h hm e
    go_enter Try.func18, Try.ntmps18
    go_wp2_with (go_at_call 43; refine (HH.out).mono ?_; rintro e w1 ⟨rfl, hw⟩; replace hw := hw.symm; subst hw)
    go_ret
    exact ⟨rfl, rfl⟩
theorem waits_ok (h : IsG w base s vt vl V T L) (t : Int) : Calls Try.prog 20 #[.pointer (some ⟨s, 0, none⟩), .int .i64 t] w fun e w' => e = .returned (.int .i64 (waitsOf T t)) ∧ w' = w := by
  have HH := veil (hasT_ok h t)
  cases hm : inT T t with
  | true =>
    rw [hm] at HH
    obtain ⟨k, y, rfl, hk, hy, e⟩ := inT_yes hm
    rw [e]
    obtain ⟨g, cap, rfl, hc1, hc2, hg, hgs, _, hc⟩ := h.tform
    obtain ⟨y0, y1, y2, y3⟩ := hc k y hy
    have c0 := h.c0
    have hk' : (k : Int) < (T.length : Int) := by omega
    clear h hc hm e
    go_enter Try.func20, Try.ntmps20
    go_wp2_with (go_at_call 41; refine (HH.out).mono ?_; rintro e w1 ⟨rfl, hw⟩; replace hw := hw.symm; subst hw)
    go_ret
    exact ⟨rfl, rfl⟩
  | false =>
    rw [hm] at HH
    have e : waitsOf T t = -1 := by unfold waitsOf; rw [hm]; rfl
    rw [e]
    clear h hm e
    go_enter Try.func20, Try.ntmps20
    go_wp2_with (go_at_call 41; refine (HH.out).mono ?_; rintro e w1 ⟨rfl, hw⟩; replace hw := hw.symm; subst hw)
    go_ret
    exact ⟨rfl, rfl⟩
theorem may_ok (h : IsG w base s vt vl V T L) (t m : Int) : Calls Try.prog 49 #[.pointer (some ⟨s, 0, none⟩), .int .i64 t, .int .i64 m] w fun e w' => e = .returned (.int .i64 (mayE T L t m)) ∧ w' = w := by
  have HT := veil (hasT_ok h t)
  have HL := veil (hasL_ok h m)
  cases ht : inT T t with
  | false =>
    rw [ht] at HT
    have e : mayE T L t m = 2 := by unfold mayE; rw [ht]; rfl
    rw [e]
    clear h ht e
    go_enter Try.func49, Try.ntmps49
    go_wp2_with (go_at_call 41; refine (HT.out).mono ?_; rintro e w1 ⟨rfl, hw⟩; replace hw := hw.symm; subst hw)
    go_ret
    exact ⟨rfl, rfl⟩
  | true =>
    rw [ht] at HT
    cases hm : inL L m with
    | false =>
      rw [hm] at HL
      have e : mayE T L t m = 2 := by unfold mayE; rw [ht, hm]; rfl
      rw [e]
      clear h ht hm e
      go_enter Try.func49, Try.ntmps49
      go_wp2_with (first
        | (go_at_call 41; refine (HT.out).mono ?_; rintro e w1 ⟨rfl, hw⟩; replace hw := hw.symm; subst hw)
        | (go_at_call 43; refine (HL.out).mono ?_; rintro e w1 ⟨rfl, hw⟩; replace hw := hw.symm; subst hw))
      go_ret
      exact ⟨rfl, rfl⟩
    | true =>
      rw [hm] at HL
      obtain ⟨k, y, rfl, hk, hy, e⟩ := inT_yes ht
      obtain ⟨g, cap, rfl, hc1, hc2, hg, hgs, _, hc⟩ := h.tform
      obtain ⟨y0, y1, y2, y3⟩ := hc k y hy
      have c0 := h.c0
      have hk' : (k : Int) < (T.length : Int) := by omega
      by_cases hu : y.u = -1
      · have e' : mayE T L (k : Int) m = 0 := by unfold mayE; rw [ht, hm, e, hu]; rfl
        rw [e']
        clear h hc ht hm e e'
        go_enter Try.func49, Try.ntmps49
        go_wp2_with (first
          | (go_at_call 41; refine (HT.out).mono ?_; rintro e w1 ⟨rfl, hw⟩; replace hw := hw.symm; subst hw)
          | (go_at_call 43; refine (HL.out).mono ?_; rintro e w1 ⟨rfl, hw⟩; replace hw := hw.symm; subst hw))
        go_ret
        exact ⟨rfl, rfl⟩
      · have e' : mayE T L (k : Int) m = 11 := by unfold mayE; rw [ht, hm, e]; simp [hu]
        rw [e']
        clear h hc ht hm e e'
        go_enter Try.func49, Try.ntmps49
        go_wp2_with (first
          | (go_at_call 41; refine (HT.out).mono ?_; rintro e w1 ⟨rfl, hw⟩; replace hw := hw.symm; subst hw)
          | (go_at_call 43; refine (HL.out).mono ?_; rintro e w1 ⟨rfl, hw⟩; replace hw := hw.symm; subst hw))
        go_ret
        exact ⟨rfl, rfl⟩
end
end Go.Proofs.Ytbhkgbhgofefjaa
