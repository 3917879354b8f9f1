/- YtjlbmmiomfpgiaaGreatDoorGo: of the texts W1 A1 A2 A3 A4 A5 A6 what is wanted. -/
import Derived.Test.YtjlbmmiomfpgiaaGreatDoorRows
import Derived.WalkKit
import Derived.WalkSpells
import Derived.WalkLawsBesides
import Derived.StillTactics
import Derived.Laws.FloatArith
import Derived.RowKit3
import Derived.Defers
import Derived.Recover
import Derived.Laws.Pointers
import Derived.Below
import Derived.Carry
import Derived.ProofKit
import Derived.OpenShut
import Derived.Lib.SmallJoins
import Derived.Laws.IdiomArrays
import Derived.WideShapes
import Derived.Deep.Strs
import Derived.Deep.RegionHeld3
import Derived.Deep.QuietTactic
import Derived.BigQuiet
namespace Go.Proofs.YtjlbmmiomfpgiaaGreatDoor.Ag
set_option maxRecDepth 100000
open Go.RowKit
def subN (a b : Int) : Int := if a < b then 0 else a - b
theorem sub_any (a b : Int) (w : World) (a0 : 0 ≤ a) (a1 : a ≤ 18446744073709551615) (b0 : 0 ≤ b) (b1 : b ≤ 18446744073709551615) :
  Calls Tryz.prog 180 #[.int .u64 a, .int .u64 b] w fun e w' => e = .returned (.int .u64 (subN a b)) ∧ w' = w := by
 unfold subN
 by_cases h : a < b
 ·rw [if_pos h]
  go_enter Tryz.func180, Tryz.ntmps180
  go_wp2
  go_ret
  exact ⟨rfl, rfl⟩
 ·rw [if_neg h]
  have h' : b ≤ a := by omega
  go_enter Tryz.func180, Tryz.ntmps180
  go_wp2
  go_ret
  exact ⟨rfl, rfl⟩
theorem subN_bd (a b : Int) (a0 : 0 ≤ a) (a1 : a ≤ 18446744073709551615) (b0 : 0 ≤ b) : 0 ≤ subN a b ∧ subN a b ≤ 18446744073709551615 := by
 unfold subN; split <;> omega
end Go.Proofs.YtjlbmmiomfpgiaaGreatDoor.Ag
namespace Go.Proofs.YtjlbmmiomfpgiaaGreatDoor.Ag
set_option maxRecDepth 100000
open Go.RowKit
set_option linter.unusedVariables false
def Hid (p : Prop) : Prop := p
theorem veil {p : Prop} (h : p) : Hid p := h
theorem Hid.out {p : Prop} (h : Hid p) : p := h
def levN (b s n p : Int) : Int := if p = 0 then b else if subN n s / p < 255 - b then b + subN n s / p else 255
def Tm (a : Int) : Prop := 0 ≤ a ∧ a ≤ 18446744073709551615
def Lv (a : Int) : Prop := 0 ≤ a ∧ a ≤ 255
theorem quo_bd (x p : Int) (h0 : 0 ≤ x) (h1 : x ≤ 18446744073709551615) (hp : 0 ≤ p) : 0 ≤ x / p ∧ x / p ≤ 18446744073709551615 :=
 ⟨Int.ediv_nonneg h0 hp, Int.le_trans (Int.ediv_le_self p h0) h1⟩
theorem level_ok (b s n p : Int) (w : World) (hb : Lv b) (hs : Tm s) (hn : Tm n) (hp : Tm p) :
  Calls Tryz.prog 155 #[.int .u8 b, .int .u64 s, .int .u64 n, .int .u64 p] w fun e w' => e = .returned (.int .u8 (levN b s n p)) ∧ w' = w := by
 obtain ⟨b0, b1⟩ := hb
 obtain ⟨s0, s1⟩ := hs
 obtain ⟨n0, n1⟩ := hn
 obtain ⟨p0, p1⟩ := hp
 have HS := veil (fun w => sub_any n s w n0 n1 s0 s1)
 have hx := subN_bd n s n0 n1 s0
 unfold levN
 generalize subN n s = x at HS hx ⊢
 obtain ⟨x0, x1⟩ := hx
 obtain ⟨q0, q1⟩ := quo_bd x p x0 x1 p0
 by_cases hp : p = 0
 ·rw [if_pos hp]
  go_enter Tryz.func155, Tryz.ntmps155
  go_wp2
  go_ret
  exact ⟨rfl, rfl⟩
 ·rw [if_neg hp]
  by_cases hq : x / p < 255 - b
  ·rw [if_pos hq]
   go_enter Tryz.func155, Tryz.ntmps155
   go_wp2_with (go_at_call 180; refine (HS.out _).mono ?_; rintro e w1 ⟨rfl, hw⟩; replace hw := hw.symm; subst hw)
   go_ret
   exact ⟨rfl, rfl⟩
  ·rw [if_neg hq]
   go_enter Tryz.func155, Tryz.ntmps155
   go_wp2_with (go_at_call 180; refine (HS.out _).mono ?_; rintro e w1 ⟨rfl, hw⟩; replace hw := hw.symm; subst hw)
   all_goals
    go_ret
    refine ⟨?_, rfl⟩
    simp
    omega
end Go.Proofs.YtjlbmmiomfpgiaaGreatDoor.Ag
