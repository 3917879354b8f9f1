/-
  age: Level of the program and of the document, over any numbers that fit.
-/
import Derived.Test.YtlfejgjhamcahaaW1
import Derived.WalkLawsBesides
namespace Go.Proofs.Ytlfejgjhamcahaa.Ag
open Go.RowKit
set_option linter.unusedVariables false

def Hid (p : Prop) : Prop := p
theorem veil {p : Prop} (h : p) : Hid p := h
theorem Hid.out {p : Prop} (h : Hid p) : p := h

/-- What a level has become. -/
def levN (b s n p : Int) : Int := if p = 0 then b else if subN n s / p < 255 - b then b + subN n s / p else 255
/-- A number that is a time, a level. -/
def Tm (a : Int) : Prop := 0 ≤ a ∧ a ≤ 18446744073709551615
def Lv (a : Int) : Prop := 0 ≤ a ∧ a ≤ 255

theorem levN_lv (b s n p : Int) (hb : Lv b) (hn : Tm n) (hs : Tm s) (hp : Tm p) : Lv (levN b s n p) := by
  unfold levN
  unfold Lv Tm at *
  have h1 := (subN_bd n s hn.1 hn.2 hs.1).1
  have h2 : 0 ≤ subN n s / p := Int.ediv_nonneg h1 hp.1
  split
  · omega
  · split <;> omega
theorem quo_bd (x p : Int) (h0 : 0 ≤ x) (h1 : x ≤ 18446744073709551615) (hp : 0 ≤ p) : 0 ≤ x / p ∧ x / p ≤ 18446744073709551615 :=
  ⟨Int.ediv_nonneg h0 hp, Int.le_trans (Int.ediv_le_self p h0) h1⟩

theorem level_ok (b s n p : Int) (w : World) (hb : Lv b) (hs : Tm s) (hn : Tm n) (hp : Tm p) :
    Calls Try.prog 32 #[.int .u8 b, .int .u64 s, .int .u64 n, .int .u64 p] w fun e w' => e = .returned (.int .u8 (levN b s n p)) ∧ w' = w := by
  obtain ⟨b0, b1⟩ := hb
  obtain ⟨s0, s1⟩ := hs
  obtain ⟨n0, n1⟩ := hn
  obtain ⟨p0, p1⟩ := hp
  have HS := veil (fun w => sub_any n s w n0 n1 s0 s1)
  have hx := subN_bd n s n0 n1 s0
  unfold levN
  generalize subN n s = x at HS hx ⊢
  obtain ⟨x0, x1⟩ := hx
  obtain ⟨q0, q1⟩ := quo_bd x p x0 x1 p0
  by_cases hp : p = 0
  · rw [if_pos hp]
    go_enter Try.func32, Try.ntmps32
    go_wp2
    go_ret
    exact ⟨rfl, rfl⟩
  · rw [if_neg hp]
    by_cases hq : x / p < 255 - b
    · rw [if_pos hq]
      go_enter Try.func32, Try.ntmps32
      go_wp2_with (go_at_call 61; refine (HS.out _).mono ?_; rintro e w1 ⟨rfl, hw⟩; replace hw := hw.symm; subst hw)
      go_ret
      exact ⟨rfl, rfl⟩
    · rw [if_neg hq]
      go_enter Try.func32, Try.ntmps32
      go_wp2_with (go_at_call 61; refine (HS.out _).mono ?_; rintro e w1 ⟨rfl, hw⟩; replace hw := hw.symm; subst hw)
      all_goals
        go_ret
        refine ⟨?_, rfl⟩
        simp
        omega
end Go.Proofs.Ytlfejgjhamcahaa.Ag
