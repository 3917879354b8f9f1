/- heapSortOrdered. -/
import Derived.Test.YtjmbadadelelfaaWf4
namespace Go.Proofs.Ytjmbadadelelfaa
open Go.RowKit
set_option linter.unusedVariables false
set_option linter.unusedSimpArgs false
attribute [local go_sem ↓] Go.wp_at_zero Go.wp_at_succ
theorem Hp.top {f hi : Nat} {D : Nat → Nat} (h : Hp f hi 0 D) : ∀ x, x < hi → D (f + x) ≤ D f := by
  intro x
  induction x using Nat.strongRecOn with
  | ind x ih =>
    intro hx
    by_cases e : x = 0
    · subst e; exact Nat.le_refl _
    · have h1 := h ((x - 1) / 2) x (Nat.zero_le _) (by unfold Kid; omega) hx
      have h2 := ih ((x - 1) / 2) (by omega) (by omega)
      omega
/-- The greatest ones stand behind, in order. -/
structure Pop (a b k : Nat) (D : Nat → Nat) : Prop where
  hp : Hp a k 0 D
  asn : Asn (a + k) b D
  lt : ∀ x y, x < k → a + k ≤ y → y < b → D (a + x) < D y
theorem Pop.next {a b i : Nat} {D1 D3 : Nat → Nat} (h : Pop a b (i + 1) D1) (hd : Dif a b D1) (hib : a + i < b) (hp : Prm a (a + i) (sw D1 a (a + i)) D3) (hh : Hp a i 0 D3) : Pop a b i D3 := by
  have htop : ∀ x, x < i + 1 → x ≠ 0 → D1 (a + x) < D1 a := fun x hx h0 => by
    have h1 := h.hp.top x hx
    have h2 : D1 (a + x) ≠ D1 a := fun e => by have := hd _ _ (by omega) (by omega) (by omega) (by omega) e; omega
    omega
  have e1 : D3 (a + i) = D1 a := by
    rw [hp.out (a + i) (by omega), sw_at, if_pos rfl]
  have e2 : ∀ y, a + i < y → D3 y = D1 y := fun y hy => by
    rw [hp.out y (by omega), sw_at, if_neg (by omega), if_neg (by omega)]
  have e3 : ∀ x, x < i → ∃ z, z < i + 1 ∧ z ≠ 0 ∧ D3 (a + x) = D1 (a + z) := fun x hx => by
    obtain ⟨j, j1, j2, j3⟩ := (hp.mem (D3 (a + x))).1 ⟨a + x, by omega, by omega, rfl⟩
    rw [sw_at, if_neg (by omega)] at j3
    by_cases q : j = a
    · rw [if_pos q] at j3
      exact ⟨i, by omega, by omega, j3.symm⟩
    · rw [if_neg q] at j3
      exact ⟨j - a, by omega, by omega, by rw [show a + (j - a) = j by omega]; exact j3.symm⟩
  refine ⟨hh, fun x y h1 h2 h3 => ?_, fun x y h1 h2 h3 => ?_⟩
  · rw [e2 y (by omega)]
    by_cases q : x = a + i
    · rw [q, e1]
      have := h.lt 0 y (by omega) (by omega) h3
      simpa using this
    · rw [e2 x (by omega)]
      exact h.asn x y (by omega) h2 h3
  · obtain ⟨z, z1, z2, z3⟩ := e3 x h1
    rw [z3]
    by_cases q : y = a + i
    · rw [q, e1]; exact htop z z1 z2
    · rw [e2 y (by omega)]
      exact h.lt z y z1 (by omega) h3
theorem Hp.sift {f hi k : Nat} {D : Nat → Nat} (h : Hp f hi (k + 1) D) : Sift f hi k k D :=
  ⟨fun p c h1 h2 h3 h4 => h p c (by omega) h3 h4, fun p c h1 h2 h3 h4 => by unfold Kid at h2; omega⟩
theorem Pop.sift {a b i : Nat} {D : Nat → Nat} (h : Pop a b (i + 1) D) : Sift a i 0 0 (sw D a (a + i)) := by
  refine ⟨fun p c h1 h2 h3 h4 => ?_, fun p c h1 h2 h3 h4 => by unfold Kid at h2; omega⟩
  have hc : c ≠ 0 ∧ c ≠ i ∧ p ≠ i := by unfold Kid at h3; omega
  rw [sw_at, sw_at, if_neg (by omega), if_neg (by omega), if_neg (by omega), if_neg (by omega)]
  exact h.hp p c h1 h3 (by omega)
set_option maxRecDepth 100000 in
set_option maxHeartbeats 8000000 in
theorem heap_ok (W : World) (r cap n : Nat) (D : Nat → Nat) (a b : Nat) (h : RowU W r cap n D) (hab : a < b) (hb : b ≤ n) (hn : n ≤ 100000) (hdif : Dif a b D) :
    Calls Try.prog 67 #[.slice (some ⟨r, 0, none⟩) n cap, .int .i64 (a : Int), .int .i64 (b : Int)] W fun e w' => e = .returned (.tuple #[]) ∧ ∃ D', RowU w' r cap n D' ∧ Prm a b D D' ∧ Asn a b D' ∧ Fr (fun k => k = r) W w' := by
  obtain ⟨hi, hhi⟩ : ∃ hi : Nat, (b : Int) - (a : Int) = (hi : Int) := ⟨b - a, by omega⟩
  obtain ⟨m, hm⟩ : ∃ m : Nat, ((hi : Int) - 1).tdiv 2 = (m : Int) := ⟨(hi - 1) / 2, by rw [Int.tdiv_eq_ediv_of_nonneg (by omega)]; omega⟩
  have hm1 : 2 * m ≤ hi - 1 ∧ hi - 1 < 2 * m + 2 := by rw [Int.tdiv_eq_ediv_of_nonneg (by omega)] at hm; omega
  have hbe : a + hi = b := by omega
  have H0 := veil h
  have HI0 := veil hdif
  have HSF : Hid (∀ W' lo h' D', RowU W' r cap n D' → a + h' ≤ n → lo ≤ n → Sift a h' lo lo D' → Calls Try.prog 77 #[.slice (some ⟨r, 0, none⟩) n cap, .int .i64 (lo : Int), .int .i64 (h' : Int), .int .i64 (a : Int)] W' fun e w' => e = .returned (.tuple #[]) ∧ ∃ D'', RowU w' r cap n D'' ∧ Prm a (a + h') D' D'' ∧ Hp a h' lo D'' ∧ Fr (fun k => k = r) W' w') := fun W' lo h' D' q1 q2 q3 q4 => sift_ok W' r cap n D' lo h' a q1 q2 hn (.inr q3) q4
  have HSZ : Hid (∀ W' h' D', RowU W' r cap n D' → a + h' ≤ n → Sift a h' 0 0 D' → Calls Try.prog 77 #[.slice (some ⟨r, 0, none⟩) n cap, .int .i64 0, .int .i64 (h' : Int), .int .i64 (a : Int)] W' fun e w' => e = .returned (.tuple #[]) ∧ ∃ D'', RowU w' r cap n D'' ∧ Prm a (a + h') D' D'' ∧ Hp a h' 0 D'' ∧ Fr (fun k => k = r) W' w') := fun W' h' D' q1 q2 q4 => HSF.out W' 0 h' D' q1 q2 (Nat.zero_le _) q4
  clear h hdif
  go_enter Try.func67, Try.ntmps67
  go_wp2
  clear hm hhi
  go_loopw [9] (fun iv wr => ∃ (k : Nat) (D' : Nat → Nat), k ≤ m + 1 ∧ ((∃ i : Nat, k = i + 1 ∧ iv = .int .i64 (i : Int)) ∨ (k = 0 ∧ iv = .int .i64 (-1))) ∧ RowU wr r cap n D' ∧ Prm a b D D' ∧ Hp a hi k D' ∧ Fr (fun k => k = r) W wr) (fun iv _ => (intOf iv + 1).toNat)
  case atStart => exact ⟨m + 1, D, by omega, .inl ⟨m, rfl, rfl⟩, H0.out, Prm.refl _ _ _, fun p c h1 h2 h3 => by unfold Kid at h2; omega, Fr.refl _ _⟩
  case round =>
    obtain ⟨k, D1, hk, hiv, hrow, hprm, hhp, hfr⟩ := hrel
    clear H0
    rcases hiv with ⟨i, rfl, rfl⟩ | ⟨rfl, rfl⟩
    · have HC := veil (HSF.out wr i hi D1 hrow (by omega) (by omega) hhp.sift)
      have HPr := veil hprm
      have HFr := veil hfr
      clear hrow hprm hhp hfr
      go_wp2_with (first
        | (go_at_call 77; refine (HC.out).mono ?_; rintro e w1 ⟨rfl, D2, q1, q2, q3, q4⟩; have HX := veil (And.intro q1 (And.intro q2 (And.intro q3 q4))); clear q1 q2 q3 q4))
      go_roundw
      case rel =>
        obtain ⟨q1, q2, q3, q4⟩ := HX.out
        refine ⟨i, D2, by omega, ?_, q1, HPr.out.trans (by rw [← hbe]; exact q2), q3, HFr.out.trans q4⟩
        by_cases e : i = 0
        · subst e; exact .inr ⟨rfl, by go_num⟩
        · exact .inl ⟨i - 1, by omega, by rw [show ((i - 1 : Nat) : Int) = (i : Int) - 1 by omega]⟩
      case measure => simp [intOf]
    · have HRw := veil hrow
      have HPr := veil hprm
      have HFr := veil hfr
      have HHp := veil hhp
      clear hrow hprm hhp hfr
      go_wp2
      go_loopw [10] (fun iv wr => ∃ (k : Nat) (D' : Nat → Nat), k ≤ hi ∧ ((∃ i : Nat, k = i + 1 ∧ iv = .int .i64 (i : Int)) ∨ (k = 0 ∧ iv = .int .i64 (-1))) ∧ RowU wr r cap n D' ∧ Prm a b D D' ∧ Pop a b k D' ∧ Fr (fun k => k = r) W wr) (fun iv _ => (intOf iv + 1).toNat)
      case atStart => exact ⟨hi, D1, by omega, .inl ⟨hi - 1, by omega, by rw [show ((hi - 1 : Nat) : Int) = (hi : Int) - 1 by omega]⟩, HRw.out, HPr.out, ⟨HHp.out, fun x y h1 h2 h3 => by omega, fun x y h1 h2 h3 => by omega⟩, HFr.out⟩
      case round =>
        obtain ⟨k, D1, hk, hiv, hrow, hprm, hpop, hfr⟩ := hrel
        clear HRw HPr HFr HHp
        rcases hiv with ⟨i, rfl, rfl⟩ | ⟨rfl, rfl⟩
        · obtain ⟨v, hv⟩ : ∃ v : Nat, (a : Int) + (i : Int) = (v : Int) := ⟨a + i, by omega⟩
          have hv2 : v = a + i := by omega
          have ca := hrow.cell a (by omega)
          have cv := hrow.cell v (by omega)
          have fz := hrow.frozen
          have hlts := hrow.lt
          have ka : (a : Int) < (n : Int) := by omega
          have kv : (v : Int) < (n : Int) := by omega
          have hw_v : IntKind.i64.wrap (v : Int) = (v : Int) := by simp [IntKind.wrap, IntKind.bits, IntKind.signed]; omega
          have HSI : Hid (Sift a i 0 0 (sw D1 a v)) := by rw [hv2]; exact hpop.sift
          have HRw := veil hrow
          have HPr := veil hprm
          have HFr := veil hfr
          have HPo := veil hpop
          have HV2 := veil hv2
          clear hrow hprm hpop hfr hv2
          by_cases hia : v = a
          · subst hia
            have hwi : Hid (i = 0) := by show i = 0; omega
            go_wp2
            go_region
            go_wp2_with (first
              | (go_at_call 77; refine (HSZ.out _ i (sw D1 v v) (by exact RowU.kept (HRw.out.swap v v (by omega) (by omega)) rfl) (by omega) HSI.out).mono ?_; rintro e w1 ⟨rfl, D2, q1, q2, q3, q4⟩; have HX := veil (And.intro q1 (And.intro q2 (And.intro q3 q4))); clear q1 q2 q3 q4))
            go_roundw
            case rel =>
              obtain ⟨q1, q2, q3, q4⟩ := HX.out
              have hp2 : Prm v b D D2 := (HPr.out.trans (Prm.swap (i := v) (j := v) (by omega) (by omega))).trans (q2.wide (Nat.le_refl _) (by omega))
              refine ⟨i, D2, by omega, ?_, q1, hp2, HPo.out.next (HPr.out.inj HI0.out) (by omega) (by have h0 := hwi.out; rw [show v + i = v by omega] at q2 ⊢; exact q2) q3, Fr.trans ((HFr.out.setCell (a := ⟨r, v, none⟩) rfl _).setCell (a := ⟨r, v, none⟩) rfl _).drew q4⟩
              by_cases e : i = 0
              · subst e; exact .inr ⟨rfl, by go_num⟩
              · exact .inl ⟨i - 1, by omega, by rw [show ((i - 1 : Nat) : Int) = (i : Int) - 1 by omega]⟩
            case measure => simp [intOf]
          · have hav : ¬ a = v := fun q => hia q.symm
            go_wp2
            go_region
            go_wp2_with (first
              | (go_at_call 77; refine (HSZ.out _ i (sw D1 a v) (by exact RowU.kept (HRw.out.swap a v (by omega) (by omega)) rfl) (by omega) HSI.out).mono ?_; rintro e w1 ⟨rfl, D2, q1, q2, q3, q4⟩; have HX := veil (And.intro q1 (And.intro q2 (And.intro q3 q4))); clear q1 q2 q3 q4))
            go_roundw
            case rel =>
              obtain ⟨q1, q2, q3, q4⟩ := HX.out
              have hp2 : Prm a b D D2 := (HPr.out.trans (Prm.swap (i := a) (j := v) (by omega) (by omega))).trans (q2.wide (Nat.le_refl _) (by omega))
              refine ⟨i, D2, by omega, ?_, q1, hp2, HPo.out.next (HPr.out.inj HI0.out) (by omega) (by rw [← HV2.out]; rw [HV2.out] at q2 ⊢; exact q2) q3, Fr.trans ((HFr.out.setCell (a := ⟨r, a, none⟩) rfl _).setCell (a := ⟨r, v, none⟩) rfl _).drew q4⟩
              by_cases e : i = 0
              · subst e; exact .inr ⟨rfl, by go_num⟩
              · exact .inl ⟨i - 1, by omega, by rw [show ((i - 1 : Nat) : Int) = (i : Int) - 1 by omega]⟩
            case measure => simp [intOf]
        · have HE := veil (And.intro hrow (And.intro hprm (And.intro (show Asn a b D1 from hpop.asn) hfr)))
          clear hrow hprm hpop hfr
          go_wp2
          go_end0
          exact ⟨rfl, D1, HE.out⟩
end Go.Proofs.Ytjmbadadelelfaa
