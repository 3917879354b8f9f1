/-
  age: the time at which a level rises, or the panic that there is none.
-/
import Derived.Test.YtfbgnijjdkfbdaaA1
import Derived.Defers
import Derived.Recover
import Derived.Laws.Pointers
namespace Go.Proofs.Ytfbgnijjdkfbdaa
open Go.RowKit
set_option linter.unusedVariables false

/-- How long it is from now till a level rises; the time ahead of it. -/
def restN (s n p : Int) : Int := p - subN n s % p
def fromN (s n : Int) : Int := if s < n then n else s
/-- There is no such time. -/
def Never (b s n p : Int) : Prop := p = 0 ∨ levN b s n p = 255 ∨ 18446744073709551615 - fromN s n < restN s n p

def pnc : List PanicEntry := [{ v := .iface 38 (.agg #[]), recovered := false }]

theorem later_ok (t d : Int) (w : World) (ht : Tm t) (hd : Tm d) (h : d ≤ 18446744073709551615 - t) :
    Calls Try.prog 20 #[.int .u64 t, .int .u64 d] w fun e w' => e = .returned (.int .u64 (t + d)) ∧ w' = w := by
  obtain ⟨t0, t1⟩ := ht
  obtain ⟨d0, d1⟩ := hd
  have h' : ¬ 18446744073709551615 - t < d := by omega
  go_enter Try.func20, Try.ntmps20
  go_wp2
  go_ret
  exact ⟨rfl, rfl⟩
theorem later_no (t d : Int) (w : World) (ht : Tm t) (hd : Tm d) (h : 18446744073709551615 - t < d) :
    Calls Try.prog 20 #[.int .u64 t, .int .u64 d] w fun e w' => e = .panicked pnc ∧ w' = w := by
  obtain ⟨t0, t1⟩ := ht
  obtain ⟨d0, d1⟩ := hd
  go_enter Try.func20, Try.ntmps20
  go_wp2
  simp [bodyPost, pnc]

theorem rise_ok (b s n p : Int) (w : World) (hb : Lv b) (hs : Tm s) (hn : Tm n) (hp : Tm p) (h : ¬ Never b s n p) :
    Calls Try.prog 17 #[.int .u8 b, .int .u64 s, .int .u64 n, .int .u64 p] w fun e w' => e = .returned (.int .u64 (fromN s n + restN s n p)) ∧ w' = w := by
  have hp0 : ¬ p = 0 := fun e => h (.inl e)
  have hl : ¬ levN b s n p = 255 := fun e => h (.inr (.inl e))
  have hr : ¬ 18446744073709551615 - fromN s n < restN s n p := fun e => h (.inr (.inr e))
  have HL := veil (fun w => level_ok b s n p w hb hs hn hp)
  have hlv := levN_lv b s n p hb hn hs hp
  obtain ⟨s0, s1⟩ := hs
  obtain ⟨n0, n1⟩ := hn
  obtain ⟨p0, p1⟩ := hp
  have HS := veil (fun w => sub_any n s w n0 n1 s0 s1)
  have hx := subN_bd n s n0 n1 s0
  have hm0 : 0 ≤ subN n s % p := Int.emod_nonneg _ hp0
  have hm1 : subN n s % p < p := Int.emod_lt_of_pos _ (by omega)
  have HT := veil (fun w => later_ok (fromN s n) (restN s n p) w (by unfold fromN Tm; split <;> omega) (by unfold restN Tm; omega) (by omega))
  unfold fromN restN at *
  generalize subN n s = x at *
  generalize levN b s n p = l at *
  obtain ⟨l0, l1⟩ := hlv
  obtain ⟨b0, b1⟩ := hb
  have hpb : (p == 0) = false := by simp [hp0]
  have hlb : (l == 255) = false := by simp [hl]
  clear h
  by_cases hsn : s < n
  · rw [if_pos hsn] at *
    go_enter Try.func17, Try.ntmps17
    go_wp2_with first | (go_at_call 15; refine (HL.out _).mono ?_; rintro e w1 ⟨rfl, hw⟩; replace hw := hw.symm; subst hw) | (go_at_call 19; refine (HS.out _).mono ?_; rintro e w1 ⟨rfl, hw⟩; replace hw := hw.symm; subst hw) | (go_at_call 20; refine (HT.out _).mono ?_; rintro e w1 ⟨rfl, hw⟩; replace hw := hw.symm; subst hw)
    go_ret
    exact ⟨rfl, rfl⟩
  · rw [if_neg hsn] at *
    go_enter Try.func17, Try.ntmps17
    go_wp2_with first | (go_at_call 15; refine (HL.out _).mono ?_; rintro e w1 ⟨rfl, hw⟩; replace hw := hw.symm; subst hw) | (go_at_call 19; refine (HS.out _).mono ?_; rintro e w1 ⟨rfl, hw⟩; replace hw := hw.symm; subst hw) | (go_at_call 20; refine (HT.out _).mono ?_; rintro e w1 ⟨rfl, hw⟩; replace hw := hw.symm; subst hw)
    go_ret
    exact ⟨rfl, rfl⟩

theorem rise_no (b s n p : Int) (w : World) (hb : Lv b) (hs : Tm s) (hn : Tm n) (hp : Tm p) (h : Never b s n p) :
    Calls Try.prog 17 #[.int .u8 b, .int .u64 s, .int .u64 n, .int .u64 p] w fun e w' => e = .panicked pnc ∧ w' = w := by
  have HL := veil (fun w => level_ok b s n p w hb hs hn hp)
  have hlv := levN_lv b s n p hb hn hs hp
  obtain ⟨s0, s1⟩ := hs
  obtain ⟨n0, n1⟩ := hn
  obtain ⟨p0, p1⟩ := hp
  have HS := veil (fun w => sub_any n s w n0 n1 s0 s1)
  have hx := subN_bd n s n0 n1 s0
  by_cases hp0 : p = 0
  · have hpb : (p == 0) = true := by simp [hp0]
    clear h HS
    generalize levN b s n p = l at *
    obtain ⟨l0, l1⟩ := hlv
    obtain ⟨b0, b1⟩ := hb
    go_enter Try.func17, Try.ntmps17
    go_wp2_with (go_at_call 15; refine (HL.out _).mono ?_; rintro e w1 ⟨rfl, hw⟩; replace hw := hw.symm; subst hw)
    simp [bodyPost, pnc]
  have hpb : (p == 0) = false := by simp [hp0]
  by_cases hl : levN b s n p = 255
  · have hlb : (levN b s n p == 255) = true := by simp [hl]
    clear h HS
    generalize levN b s n p = l at *
    obtain ⟨l0, l1⟩ := hlv
    obtain ⟨b0, b1⟩ := hb
    go_enter Try.func17, Try.ntmps17
    go_wp2_with (go_at_call 15; refine (HL.out _).mono ?_; rintro e w1 ⟨rfl, hw⟩; replace hw := hw.symm; subst hw)
    simp [bodyPost, pnc]
  have hlb : (levN b s n p == 255) = false := by simp [hl]
  have hr : 18446744073709551615 - fromN s n < restN s n p := by
    rcases h with h | h | h
    · exact absurd h hp0
    · exact absurd h hl
    · exact h
  have hm0 : 0 ≤ subN n s % p := Int.emod_nonneg _ hp0
  have hm1 : subN n s % p < p := Int.emod_lt_of_pos _ (by omega)
  have HT := veil (fun w => later_no (fromN s n) (restN s n p) w (by unfold fromN Tm; split <;> omega) (by unfold restN Tm; omega) hr)
  clear h
  unfold fromN restN at *
  generalize subN n s = x at *
  generalize levN b s n p = l at *
  obtain ⟨l0, l1⟩ := hlv
  obtain ⟨b0, b1⟩ := hb
  clear hr
  by_cases hsn : s < n
  · rw [if_pos hsn] at *
    go_enter Try.func17, Try.ntmps17
    go_wp2_with first | (go_at_call 15; refine (HL.out _).mono ?_; rintro e w1 ⟨rfl, hw⟩; replace hw := hw.symm; subst hw) | (go_at_call 19; refine (HS.out _).mono ?_; rintro e w1 ⟨rfl, hw⟩; replace hw := hw.symm; subst hw) | (go_at_call 20; refine (HT.out _).mono ?_; rintro e w1 ⟨rfl, hw⟩; replace hw := hw.symm; subst hw)
    simp [bodyPost]
  · rw [if_neg hsn] at *
    go_enter Try.func17, Try.ntmps17
    go_wp2_with first | (go_at_call 15; refine (HL.out _).mono ?_; rintro e w1 ⟨rfl, hw⟩; replace hw := hw.symm; subst hw) | (go_at_call 19; refine (HS.out _).mono ?_; rintro e w1 ⟨rfl, hw⟩; replace hw := hw.symm; subst hw) | (go_at_call 20; refine (HT.out _).mono ?_; rintro e w1 ⟨rfl, hw⟩; replace hw := hw.symm; subst hw)
    simp [bodyPost]

end Go.Proofs.Ytfbgnijjdkfbdaa
