/- slices.Sort of up to 1024 times that differ. -/
import Derived.Test.YtjmbadadelelfaaWf10
namespace Go.Proofs.Ytjmbadadelelfaa
open Go.RowKit
set_option linter.unusedVariables false
set_option linter.unusedSimpArgs false
attribute [local go_sem ↓] Go.wp_at_zero Go.wp_at_succ
theorem bitLen_few : ∀ n, n < 1025 → Lib.bitLen n ≤ 100 := by decide +kernel
set_option maxRecDepth 100000 in
theorem sorts1024 : Sorts 1024 := by
  intro W r cap n D h hn hinj
  have HP : Hid (∀ lim : Nat, lim ≤ 100 → Calls Try.prog 63 #[.slice (some ⟨r, 0, none⟩) n cap, .int .i64 0, .int .i64 (n : Int), .int .i64 (lim : Int)] W fun e w' => Srts W r cap n D 0 n e w') := fun lim hl => pdq_any n W r cap n D 0 n lim (by omega) h (by omega) (Nat.le_refl _) (by omega) (fun x y _ h1 _ h2 e => hinj x y h1 h2 e) (.inl rfl) hl
  have HB := veil (fun w => len_any (n : Int) w (by omega) (by omega))
  have hbl := bitLen_few n (by omega)
  have hw : IntKind.u64.wrap (n : Int) = (n : Int) := by rw [IntKind.wrap_u64]; omega
  have ht : ((n : Int)).toNat = n := by omega
  rw [ht] at HB
  have HEND : Hid (∀ w', Srts W r cap n D 0 n (.returned (.tuple #[])) w' → ∃ D', RowU w' r cap n D' ∧ (∀ v, (∃ a, a < n ∧ D' a = v) ↔ ∃ a, a < n ∧ D a = v) ∧ (∀ a c, a < c → c < n → D' a < D' c) ∧ Fr (fun k => k = r) W w') := fun w' ⟨_, D', g1, g2, g3, g4⟩ => ⟨D', g1, fun v => by
    have := g2.mem v
    constructor
    · rintro ⟨a, h1, h2⟩
      obtain ⟨j, _, j2, j3⟩ := this.1 ⟨a, Nat.zero_le _, h1, h2⟩
      exact ⟨j, j2, j3⟩
    · rintro ⟨a, h1, h2⟩
      obtain ⟨j, _, j2, j3⟩ := this.2 ⟨a, Nat.zero_le _, h1, h2⟩
      exact ⟨j, j2, j3⟩, fun a c h1 h2 => g3 a c (Nat.zero_le _) h1 h2, g4⟩
  generalize Lib.bitLen n = lim at *
  clear h hinj ht
  go_enter Try.func58, Try.ntmps58
  go_wp2_with (first
    | (go_at_call 64; refine (HB.out _).mono ?_; rintro e w1 ⟨rfl, hw⟩; replace hw := hw.symm; subst hw)
    | (go_at_call 63; refine (HP.out _ hbl).mono ?_; rintro e w2 ⟨rfl, hx⟩; have HX := veil (HEND.out _ ⟨rfl, hx⟩); clear hx))
  go_end0
  exact ⟨rfl, HX.out⟩
end Go.Proofs.Ytjmbadadelelfaa
