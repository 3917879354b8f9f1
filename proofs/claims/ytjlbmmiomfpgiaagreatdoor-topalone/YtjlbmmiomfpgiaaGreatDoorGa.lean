/- YtjlbmmiomfpgiaaGreatDoorGa: of the texts Mq what is wanted. -/
import Derived.Test.YtjlbmmiomfpgiaaGreatDoorRows
import Derived.WalkKit
import Derived.WalkSpells
import Derived.WalkLawsBesides
import Derived.StillTactics
import Derived.Laws.FloatArith
import Derived.RowKit3
import Derived.Laws.MathBits
import Derived.Lib.BitFns
import Derived.Laws.Bits64b
import Derived.Laws.StructEq
import Derived.Below
import Derived.RegionTactic
import Derived.Laws.BitsAllLaws
import Derived.Laws.MakeOwn
import Derived.OwnWalk
import Derived.Deep.QuietTactic
import Derived.BigQuiet
import Derived.Deep.RegionHeld3
import Derived.Lib.SmallJoins
namespace Go.Proofs.YtjlbmmiomfpgiaaGreatDoor.Bq
set_option maxRecDepth 100000
open Go.RowKit
def addN (a b : Int) : Int := if 18446744073709551615 < a + b then 18446744073709551615 else a + b
theorem add_any (a b : Int) (w : World) (a0 : 0 ≤ a) (a1 : a ≤ 18446744073709551615) (b0 : 0 ≤ b) (b1 : b ≤ 18446744073709551615) :
  Calls Tryz.prog 43 #[.int .u64 a, .int .u64 b] w fun e w' => e = .returned (.int .u64 (addN a b)) ∧ w' = w := by
 unfold addN
 by_cases h : 18446744073709551615 < a + b
 ·rw [if_pos h]
  have h' : 18446744073709551615 - b < a := by omega
  go_enter Tryz.func43, Tryz.ntmps43
  go_wp2
  go_ret
  exact ⟨rfl, rfl⟩
 ·rw [if_neg h]
  have h' : ¬ 18446744073709551615 - b < a := by omega
  go_enter Tryz.func43, Tryz.ntmps43
  go_wp2
  go_ret
  exact ⟨rfl, rfl⟩
end Go.Proofs.YtjlbmmiomfpgiaaGreatDoor.Bq
namespace Go.Proofs.YtjlbmmiomfpgiaaGreatDoor.Bq
set_option maxRecDepth 100000
open Go.RowKit Go.Lib
def hiN (a b : Int) : Int := a * b / 18446744073709551616
def loN (a b : Int) : Int := a * b % 18446744073709551616
theorem low_half (z : Int) : bits .and .u64 (z % 18446744073709551616) 4294967295 = z % 18446744073709551616 % 4294967296 :=
 and_low32 _ (by omega) (by omega)
set_option maxHeartbeats 1000000 in
theorem mul64_any (a b : Int) (w : World) (a0 : 0 ≤ a) (a1 : a ≤ 18446744073709551615) (b0 : 0 ≤ b) (b1 : b ≤ 18446744073709551615) :
  Calls Tryz.prog 117 #[.int .u64 a, .int .u64 b] w fun e w' => e = .returned (.tuple #[.int .u64 (hiN a b), .int .u64 (loN a b)]) ∧ w' = w := by
 have HH : Hid (_ = a * b / 18446744073709551616) := mul64_arith a b a0 (by omega) b0 (by omega)
 go_enter Tryz.func117, Tryz.ntmps117
 go_wp2
 simp only [IntKind.wrap_u64, and_low32 a a0 (by omega), and_low32 b b0 (by omega), low_half]
 rw [HH.out]
 go_ret2
 exact ⟨rfl, rfl⟩
theorem tab_get (i : Nat) (h : i < Lib.len8tab.size) : ((Lib.len8tab[i]).toNat : Int) = (Lib.bitLen i : Int) := by
 have h' : i < 256 := by rw [Lib.len8tab_size] at h; exact h
 have e := Lib.len8_eq ⟨i, h'⟩
 simp only [Lib.len8, Int.toNat_natCast, ByteArray.getElem?_lt' _ _ h, Option.getD_some] at e
 exact e
theorem wrap64_of_in {a : Int} (h : -9223372036854775808 ≤ a) (h' : a < 9223372036854775808) : wrap64 a = a := by
 unfold wrap64; omega
theorem len_fin (x y : Int) (kk : Int) (h : Lib.bitLen y.toNat ≤ 8) (k0 : 0 ≤ kk) (k1 : kk ≤ 56) (e : (Lib.bitLen x.toNat : Int) = kk + (Lib.bitLen y.toNat : Int)) :
  wrap64 (kk + wrap64 (Lib.bitLen y.toNat : Int)) = (Lib.bitLen x.toNat : Int) := by
 rw [wrap64_of_in (a := (Lib.bitLen y.toNat : Int)) (by omega) (by omega), wrap64_of_in (by omega) (by omega), e]
set_option maxHeartbeats 4000000 in
set_option maxRecDepth 100000 in
theorem len64_any (x : Int) (w : World) (h0 : 0 ≤ x) (h1 : x ≤ 18446744073709551615) :
  Calls Tryz.prog 206 #[.int .u64 x] w fun e w' => e = .returned (.int .i64 (Lib.bitLen x.toNat)) ∧ w' = w := by
 have hsz : Lib.len8tab.size = 256 := Lib.len8tab_size
 go_enter Tryz.func206, Tryz.ntmps206
 go_wp2
 all_goals (go_ret; refine ⟨congrArg Ending.returned (congrArg (Value.int IntKind.i64) ?_), rfl⟩)
 all_goals rw [tab_get _ (by omega)]
 ·have s := Lib.bitLen_shift56 x.toNat (by omega) (by omega)
  have e : (x / 4294967296 / 65536 / 256).toNat = x.toNat / 72057594037927936 := by omega
  exact len_fin x _ 56 (Lib.bitLen_le8' (x / 4294967296 / 65536 / 256) (by omega) (by omega)) (by decide) (by decide) (by rw [e]; omega)
 ·have s := Lib.bitLen_shift48 x.toNat (by omega) (by omega)
  have e : (x / 4294967296 / 65536).toNat = x.toNat / 281474976710656 := by omega
  exact len_fin x _ 48 (Lib.bitLen_le8' (x / 4294967296 / 65536) (by omega) (by omega)) (by decide) (by decide) (by rw [e]; omega)
 ·have s := Lib.bitLen_shift40 x.toNat (by omega) (by omega)
  have e : (x / 4294967296 / 256).toNat = x.toNat / 1099511627776 := by omega
  exact len_fin x _ 40 (Lib.bitLen_le8' (x / 4294967296 / 256) (by omega) (by omega)) (by decide) (by decide) (by rw [e]; omega)
 ·have s := Lib.bitLen_shift32 x.toNat (by omega) (by omega)
  have e : (x / 4294967296).toNat = x.toNat / 4294967296 := by omega
  exact len_fin x _ 32 (Lib.bitLen_le8' (x / 4294967296) (by omega) (by omega)) (by decide) (by decide) (by rw [e]; omega)
 ·have s := Lib.bitLen_shift24 x.toNat (by omega) (by omega)
  have e : (x / 65536 / 256).toNat = x.toNat / 16777216 := by omega
  exact len_fin x _ 24 (Lib.bitLen_le8' (x / 65536 / 256) (by omega) (by omega)) (by decide) (by decide) (by rw [e]; omega)
 ·have s := Lib.bitLen_shift16 x.toNat (by omega) (by omega)
  have e : (x / 65536).toNat = x.toNat / 65536 := by omega
  exact len_fin x _ 16 (Lib.bitLen_le8' (x / 65536) (by omega) (by omega)) (by decide) (by decide) (by rw [e]; omega)
 ·have s := Lib.bitLen_shift8 x.toNat (by omega) (by omega)
  have e : (x / 256).toNat = x.toNat / 256 := by omega
  exact len_fin x _ 8 (Lib.bitLen_le8' (x / 256) (by omega) (by omega)) (by decide) (by decide) (by rw [e]; omega)
 ·have := Lib.bitLen_le8' x h0 (by omega)
  have e : wrap64 (Lib.bitLen x.toNat : Int) = (Lib.bitLen x.toNat : Int) := wrap64_of_in (by omega) (by omega)
  rw [e, e]
end Go.Proofs.YtjlbmmiomfpgiaaGreatDoor.Bq
namespace Go.Proofs.YtjlbmmiomfpgiaaGreatDoor.Bq
set_option maxRecDepth 100000
open Go.RowKit Go.Lib
@[go_sem] theorem buildArr0 (w : World) : (Instr.build 245 #[]).run Tryz.prog w = .ok (.agg #[.int .u64 0, .int .u64 0, .int .u64 0, .int .u64 0]) w := run_build w 245 _ _ (by kernel_rfl)
@[go_sem] theorem buildArr1 (a : Int) (w : World) : (Instr.build 245 #[(0, .int .u64 a)]).run Tryz.prog w = .ok (.agg #[.int .u64 a, .int .u64 0, .int .u64 0, .int .u64 0]) w := run_build w 245 _ _ (by kernel_rfl)
@[go_sem] theorem eqArr (a b c d a' b' c' d' : Int) (w : World) : (Op.equalIn 10000 245 (.agg #[.int .u64 a, .int .u64 b, .int .u64 c, .int .u64 d]) (.agg #[.int .u64 a', .int .u64 b', .int .u64 c', .int .u64 d'])).run Tryz.prog w = .ok (a == a' && b == b' && c == c' && d == d') w := by
 have u3 := Tryz.underlying25
 have a3 := Tryz.isAgg25
 have z3 := Tryz.sizeOf25
 rw [show (10000 : Nat) = 9999 + 1 from rfl, Op.equalIn]
 simp only [Sem.run_bind, run_underlying Tryz.underlying245, Result.andThen_ok]
 simp only [Std.Legacy.Range.forIn_eq_forIn_range', Std.Legacy.Range.size, Nat.sub_zero, Nat.add_sub_cancel, Nat.div_one, List.range'_succ, List.range'_zero, List.forIn_cons, List.forIn_nil]
 go_simp
 by_cases h1 : a = a' <;> by_cases h2 : b = b' <;> by_cases h3 : c = c' <;> by_cases h4 : d = d' <;> simp [h1, h2, h3, h4]
def hiOf (x : Int) (at_ : Int) (old : Int) : Int := if x = 0 then old else at_ + Lib.bitLen x.toNat - 1
def hiPart (w0 w1 w2 w3 : Int) (k : Nat) : Int :=
 match k with
 | 0 => 0
 | 1 => hiOf w0 0 0
 | 2 => hiOf w1 64 (hiOf w0 0 0)
 | 3 => hiOf w2 128 (hiOf w1 64 (hiOf w0 0 0))
 | _ => hiOf w3 192 (hiOf w2 128 (hiOf w1 64 (hiOf w0 0 0)))
def hiBit (w0 w1 w2 w3 : Int) : Int := if w0 = 0 ∧ w1 = 0 ∧ w2 = 0 ∧ w3 = 0 then -1 else hiPart w0 w1 w2 w3 4
theorem len_bd (x : Int) (h0 : 0 ≤ x) (h1 : x ≤ 18446744073709551615) : 0 ≤ (Lib.bitLen x.toNat : Int) ∧ (Lib.bitLen x.toNat : Int) ≤ 64 := by
 have := Lib.bitLen_le x.toNat 64 (by omega) (by simp; omega)
 omega
def W64 (x : Int) : Prop := 0 ≤ x ∧ x ≤ 18446744073709551615
set_option maxHeartbeats 1000000 in
theorem highest_none (w : World) :
  Calls Tryz.prog 226 #[.agg #[.int .u64 0, .int .u64 0, .int .u64 0, .int .u64 0]] w fun e w' => e = .returned (.int .i64 (-1)) ∧ ∃ c : Array Value, w' = w.alloc (.cells c 245) := by
 go_enter Tryz.func226, Tryz.ntmps226
 go_wp2
 go_ret
 exact ⟨rfl, _, rfl⟩
set_option maxHeartbeats 2000000 in
theorem highest_some (w0 w1 w2 w3 : Int) (w : World) (b0 : W64 w0) (b1 : W64 w1) (b2 : W64 w2) (b3 : W64 w3) (hn : ¬ (w0 = 0 ∧ w1 = 0 ∧ w2 = 0 ∧ w3 = 0)) :
  Calls Tryz.prog 226 #[.agg #[.int .u64 w0, .int .u64 w1, .int .u64 w2, .int .u64 w3]] w fun e w' => e = .returned (.int .i64 (hiPart w0 w1 w2 w3 4)) ∧ ∃ c : Array Value, w' = w.alloc (.cells c 245) := by
 obtain ⟨b00, b01⟩ := b0; obtain ⟨b10, b11⟩ := b1; obtain ⟨b20, b21⟩ := b2; obtain ⟨b30, b31⟩ := b3
 have hd : (w0 == 0 && w1 == 0 && w2 == 0 && w3 == 0) = false := by
  by_cases h0 : w0 = 0 <;> by_cases h1 : w1 = 0 <;> by_cases h2 : w2 = 0 <;> by_cases h3 : w3 = 0 <;> simp_all
 clear hn
 go_enter Tryz.func226, Tryz.ntmps226
 go_wp2
 clear hd
 go_loop [3, 8] (fun h i => ∃ k : Nat, k ≤ 4 ∧ i = .int .i64 k ∧ h = .int .i64 (hiPart w0 w1 w2 w3 k)) (fun _ i => 4 - (intOf i).toNat)
 case atStart => exact ⟨0, by omega, rfl, rfl⟩
 case round =>
  obtain ⟨k, hk, rfl, rfl⟩ := hrel
  have hc : k = 0 ∨ k = 1 ∨ k = 2 ∨ k = 3 ∨ k = 4 := by omega
  rcases hc with rfl | rfl | rfl | rfl | rfl
  ·have hl := len_bd w0 b00 b01
   by_cases hz : w0 = 0
   ·have hz' : (w0 == 0) = true := by simp [hz]
    have HR : Hid (hiPart w0 w1 w2 w3 0 = hiPart w0 w1 w2 w3 1) := by
     show _ = _
     simp [hiPart, hiOf, hz]
    clear hz
    go_wp2
    go_round
    case rel => exact ⟨1, by omega, rfl, by rw [HR.out]⟩
    case measure => simp [intOf]
   ·have hz' : (w0 == 0) = false := by simp [hz]
    have HR : Hid (hiPart w0 w1 w2 w3 1 = 0 + (Lib.bitLen w0.toNat : Int) - 1) := by
     show _ = _
     simp [hiPart, hiOf, hz]
    clear hz
    go_wp2_with (go_at_call 206; refine (len64_any w0 _ b00 b01).mono ?_; rintro e w' ⟨rfl, rfl⟩)
    go_round
    case rel => exact ⟨1, by omega, rfl, by rw [HR.out]; go_num⟩
    case measure => simp [intOf]
  ·have hl := len_bd w1 b10 b11
   by_cases hz : w1 = 0
   ·have hz' : (w1 == 0) = true := by simp [hz]
    have HR : Hid (hiPart w0 w1 w2 w3 1 = hiPart w0 w1 w2 w3 2) := by
     show _ = _
     simp [hiPart, hiOf, hz]
    clear hz
    go_wp2
    go_round
    case rel => exact ⟨2, by omega, rfl, by rw [HR.out]⟩
    case measure => simp [intOf]
   ·have hz' : (w1 == 0) = false := by simp [hz]
    have HR : Hid (hiPart w0 w1 w2 w3 2 = 64 + (Lib.bitLen w1.toNat : Int) - 1) := by
     show _ = _
     simp [hiPart, hiOf, hz]
    clear hz
    go_wp2_with (go_at_call 206; refine (len64_any w1 _ b10 b11).mono ?_; rintro e w' ⟨rfl, rfl⟩)
    go_round
    case rel => exact ⟨2, by omega, rfl, by rw [HR.out]⟩
    case measure => simp [intOf]
  ·have hl := len_bd w2 b20 b21
   by_cases hz : w2 = 0
   ·have hz' : (w2 == 0) = true := by simp [hz]
    have HR : Hid (hiPart w0 w1 w2 w3 2 = hiPart w0 w1 w2 w3 3) := by
     show _ = _
     simp [hiPart, hiOf, hz]
    clear hz
    go_wp2
    go_round
    case rel => exact ⟨3, by omega, rfl, by rw [HR.out]⟩
    case measure => simp [intOf]
   ·have hz' : (w2 == 0) = false := by simp [hz]
    have HR : Hid (hiPart w0 w1 w2 w3 3 = 128 + (Lib.bitLen w2.toNat : Int) - 1) := by
     show _ = _
     simp [hiPart, hiOf, hz]
    clear hz
    go_wp2_with (go_at_call 206; refine (len64_any w2 _ b20 b21).mono ?_; rintro e w' ⟨rfl, rfl⟩)
    go_round
    case rel => exact ⟨3, by omega, rfl, by rw [HR.out]⟩
    case measure => simp [intOf]
  ·have hl := len_bd w3 b30 b31
   by_cases hz : w3 = 0
   ·have hz' : (w3 == 0) = true := by simp [hz]
    have HR : Hid (hiPart w0 w1 w2 w3 3 = hiPart w0 w1 w2 w3 4) := by
     show _ = _
     simp [hiPart, hiOf, hz]
    clear hz
    go_wp2
    go_round
    case rel => exact ⟨4, by omega, rfl, by rw [HR.out]⟩
    case measure => simp [intOf]
   ·have hz' : (w3 == 0) = false := by simp [hz]
    have HR : Hid (hiPart w0 w1 w2 w3 4 = 192 + (Lib.bitLen w3.toNat : Int) - 1) := by
     show _ = _
     simp [hiPart, hiOf, hz]
    clear hz
    go_wp2_with (go_at_call 206; refine (len64_any w3 _ b30 b31).mono ?_; rintro e w' ⟨rfl, rfl⟩)
    go_round
    case rel => exact ⟨4, by omega, rfl, by rw [HR.out]⟩
    case measure => simp [intOf]
  ·go_wp2
   go_ret
   exact ⟨rfl, _, rfl⟩
theorem highest_any (w0 w1 w2 w3 : Int) (w : World) (b0 : W64 w0) (b1 : W64 w1) (b2 : W64 w2) (b3 : W64 w3) :
  Calls Tryz.prog 226 #[.agg #[.int .u64 w0, .int .u64 w1, .int .u64 w2, .int .u64 w3]] w fun e w' => e = .returned (.int .i64 (hiBit w0 w1 w2 w3)) ∧ ∃ c : Array Value, w' = w.alloc (.cells c 245) := by
 unfold hiBit
 by_cases h : w0 = 0 ∧ w1 = 0 ∧ w2 = 0 ∧ w3 = 0
 ·rw [if_pos h]; obtain ⟨rfl, rfl, rfl, rfl⟩ := h; exact highest_none w
 ·rw [if_neg h]; exact highest_some w0 w1 w2 w3 w b0 b1 b2 b3 h
end Go.Proofs.YtjlbmmiomfpgiaaGreatDoor.Bq
namespace Go.Proofs.YtjlbmmiomfpgiaaGreatDoor.Bq
set_option maxRecDepth 100000
open Go.RowKit Go.Lib
theorem bl_log : ∀ (n x : Nat), x < 2 ^ n → n ≤ 64 → x ≠ 0 → 2 ^ (Lib.bitLen x - 1) ≤ x ∧ x < 2 ^ (Lib.bitLen x) ∧ 1 ≤ Lib.bitLen x
 | 0, x, h, _, h0 => by simp at h; omega
 | n + 1, x, h, hn, h0 => by
  have hx : x < 2 ^ 64 := Nat.lt_of_lt_of_le h (Nat.pow_le_pow_right (by decide) hn)
  have e := Lib.bitLen_half x h0 hx
  by_cases h1 : x / 2 = 0
  ·have hx1 : x = 1 := by omega
   subst hx1
   decide
  ·obtain ⟨a, b, c⟩ := bl_log n (x / 2) (by rw [Nat.pow_succ] at h; omega) (by omega) h1
   rw [e]
   obtain ⟨L, hL⟩ : ∃ L, Lib.bitLen (x / 2) = L + 1 := ⟨Lib.bitLen (x / 2) - 1, by omega⟩
   rw [hL] at a b ⊢
   simp only [Nat.add_sub_cancel] at a
   have e1 : 1 + (L + 1) - 1 = L + 1 := by omega
   have e2 : 1 + (L + 1) = L + 1 + 1 := by omega
   rw [e1, e2, Nat.pow_succ, Nat.pow_succ, Nat.pow_succ] at *
   generalize 2 ^ L = Q at *
   omega
theorem bl (x : Int) (h : W64 x) (h0 : x ≠ 0) : 2 ^ (Lib.bitLen x.toNat - 1) ≤ x.toNat ∧ x.toNat < 2 ^ (Lib.bitLen x.toNat) ∧ 1 ≤ Lib.bitLen x.toNat := by
 obtain ⟨l, m⟩ := h
 exact bl_log 64 x.toNat (by simp; omega) (by omega) (by omega)
theorem hiBit_eq (w0 w1 w2 w3 : Int) : hiBit w0 w1 w2 w3 = if w0 = 0 ∧ w1 = 0 ∧ w2 = 0 ∧ w3 = 0 then -1 else hiOf w3 192 (hiOf w2 128 (hiOf w1 64 (hiOf w0 0 0))) := rfl
theorem hi_bd (w0 w1 w2 w3 : Int) (b0 : W64 w0) (b1 : W64 w1) (b2 : W64 w2) (b3 : W64 w3) : -1 ≤ hiBit w0 w1 w2 w3 ∧ hiBit w0 w1 w2 w3 ≤ 255 := by
 have l0 := len_bd w0 b0.1 b0.2; have l1 := len_bd w1 b1.1 b1.2; have l2 := len_bd w2 b2.1 b2.2; have l3 := len_bd w3 b3.1 b3.2
 rw [hiBit_eq]
 unfold hiOf
 split
 ·omega
 ·(repeat' split) <;> omega
theorem hi_ge (w0 w1 w2 w3 : Int) (b0 : W64 w0) (b1 : W64 w1) (b2 : W64 w2) (b3 : W64 w3) : (w0 ≠ 0 → 0 + (Lib.bitLen w0.toNat : Int) - 1 ≤ hiBit w0 w1 w2 w3) ∧ (w1 ≠ 0 → 64 + (Lib.bitLen w1.toNat : Int) - 1 ≤ hiBit w0 w1 w2 w3) ∧ (w2 ≠ 0 → 128 + (Lib.bitLen w2.toNat : Int) - 1 ≤ hiBit w0 w1 w2 w3) ∧ (w3 ≠ 0 → 192 + (Lib.bitLen w3.toNat : Int) - 1 ≤ hiBit w0 w1 w2 w3) := by
 have l0 := len_bd w0 b0.1 b0.2; have l1 := len_bd w1 b1.1 b1.2; have l2 := len_bd w2 b2.1 b2.2; have l3 := len_bd w3 b3.1 b3.2
 have k0 : w0 ≠ 0 → 1 ≤ (Lib.bitLen w0.toNat : Int) := fun h => by have := (bl w0 b0 h).2.2; omega
 have k1 : w1 ≠ 0 → 1 ≤ (Lib.bitLen w1.toNat : Int) := fun h => by have := (bl w1 b1 h).2.2; omega
 have k2 : w2 ≠ 0 → 1 ≤ (Lib.bitLen w2.toNat : Int) := fun h => by have := (bl w2 b2 h).2.2; omega
 have k3 : w3 ≠ 0 → 1 ≤ (Lib.bitLen w3.toNat : Int) := fun h => by have := (bl w3 b3 h).2.2; omega
 rw [hiBit_eq]
 unfold hiOf
 split
 ·omega
 ·(repeat' split) <;> omega
theorem hi_at (w0 w1 w2 w3 : Int) (b0 : W64 w0) (b1 : W64 w1) (b2 : W64 w2) (b3 : W64 w3) (m : Int) (m0 : 0 ≤ m) (m1 : m < 64) : (hiBit w0 w1 w2 w3 = 0 + m → w0 ≠ 0 ∧ (Lib.bitLen w0.toNat : Int) - 1 = m) ∧ (hiBit w0 w1 w2 w3 = 64 + m → w1 ≠ 0 ∧ (Lib.bitLen w1.toNat : Int) - 1 = m) ∧ (hiBit w0 w1 w2 w3 = 128 + m → w2 ≠ 0 ∧ (Lib.bitLen w2.toNat : Int) - 1 = m) ∧ (hiBit w0 w1 w2 w3 = 192 + m → w3 ≠ 0 ∧ (Lib.bitLen w3.toNat : Int) - 1 = m) := by
 have l0 := len_bd w0 b0.1 b0.2; have l1 := len_bd w1 b1.1 b1.2; have l2 := len_bd w2 b2.1 b2.2; have l3 := len_bd w3 b3.1 b3.2
 have k0 : w0 ≠ 0 → 1 ≤ (Lib.bitLen w0.toNat : Int) := fun h => by have := (bl w0 b0 h).2.2; omega
 have k1 : w1 ≠ 0 → 1 ≤ (Lib.bitLen w1.toNat : Int) := fun h => by have := (bl w1 b1 h).2.2; omega
 have k2 : w2 ≠ 0 → 1 ≤ (Lib.bitLen w2.toNat : Int) := fun h => by have := (bl w2 b2 h).2.2; omega
 have k3 : w3 ≠ 0 → 1 ≤ (Lib.bitLen w3.toNat : Int) := fun h => by have := (bl w3 b3 h).2.2; omega
 rw [hiBit_eq]
 unfold hiOf
 split
 ·omega
 ·(repeat' split) <;> omega
end Go.Proofs.YtjlbmmiomfpgiaaGreatDoor.Bq
namespace Go.Proofs.YtjlbmmiomfpgiaaGreatDoor.Bq
set_option maxRecDepth 100000
open Go.RowKit
def upd {α : Type} (f : Nat → α) (i : Nat) (x : α) : Nat → α := fun j => if j = i then x else f j
theorem upd_same {α : Type} (f : Nat → α) (i : Nat) (x : α) : upd f i x i = x := by simp [upd]
theorem upd_other {α : Type} (f : Nat → α) (i : Nat) (x : α) (j : Nat) (h : j ≠ i) : upd f i x j = f j := by simp [upd, h]
structure Rep (w : World) (b g n : Nat) (F L : Nat → Nat) (M : Nat → Int) (c : Nat) (A B V : Nat → Nat) (T : Nat → Bool) : Prop where
 bg : b ≠ g
 fst : ∀ i, i < 256 → w.cell? ⟨b, i, none⟩ = some (.int .i64 (F i))
 lst : ∀ i, i < 256 → w.cell? ⟨b, 256 + i, none⟩ = some (.int .i64 (L i))
 msk : ∀ i, i < 4 → w.cell? ⟨b, 512 + i, none⟩ = some (.int .u64 (M i))
 sl : ∃ cp, w.cell? ⟨b, 516, none⟩ = some (.slice (some ⟨g, 0, none⟩) (n + 1) cp)
 cn : w.cell? ⟨b, 517, none⟩ = some (.int .i64 c)
 la : ∀ s, s ≤ n → w.cell? ⟨g, s * 4, none⟩ = some (.int .i64 (A s))
 lb : ∀ s, s ≤ n → w.cell? ⟨g, s * 4 + 1, none⟩ = some (.int .i64 (B s))
 lv : ∀ s, s ≤ n → w.cell? ⟨g, s * 4 + 2, none⟩ = some (.int .u8 (V s))
 lt : ∀ s, s ≤ n → w.cell? ⟨g, s * 4 + 3, none⟩ = some (.bool (T s))
 fb : ∀ o, w.frozen? ⟨b, o, none⟩ = false
 fg : ∀ o, w.frozen? ⟨g, o, none⟩ = false
theorem set_same (w : World) (a : Addr) (x u : Value) (h : w.cell? a = some u) : (w.setCell a x).cell? a = some x := World.cell?_setCell_same _ _ _ h
theorem set_other (w : World) (b o b' o' : Nat) (x : Value) (h : ¬ (b = b' ∧ o = o')) : (w.setCell ⟨b, o, none⟩ x).cell? ⟨b', o', none⟩ = w.cell? ⟨b', o', none⟩ :=
 World.cell?_setCell_other _ _ _ _ (by intro e; simp only [Addr.mk.injEq, and_true] at e; exact h e)
section
variable {w : World} {b g n : Nat} {F L : Nat → Nat} {M : Nat → Int} {c : Nat} {A B V : Nat → Nat} {T : Nat → Bool}
theorem Rep.drew (h : Rep w b g n F L M c A B V T) : Rep w.drew b g n F L M c A B V T := ⟨h.bg, h.fst, h.lst, h.msk, h.sl, h.cn, h.la, h.lb, h.lv, h.lt, h.fb, h.fg⟩
theorem Rep.lt_b (h : Rep w b g n F L M c A B V T) : b < w.heap.size := World.block_lt_of_cell? w ⟨b, 517, none⟩ h.cn
theorem Rep.lt_g (h : Rep w b g n F L M c A B V T) : g < w.heap.size := World.block_lt_of_cell? w ⟨g, 0 * 4, none⟩ (h.la 0 (Nat.zero_le _))
theorem Rep.kept {w' : World} (h : Rep w b g n F L M c A B V T) (hb : w'.heap[b]? = w.heap[b]?) (hg : w'.heap[g]? = w.heap[g]?) : Rep w' b g n F L M c A B V T := by
 have eb : ∀ o, w'.cell? ⟨b, o, none⟩ = w.cell? ⟨b, o, none⟩ := fun o => by simp only [World.cell?, hb]
 have eg : ∀ o, w'.cell? ⟨g, o, none⟩ = w.cell? ⟨g, o, none⟩ := fun o => by simp only [World.cell?, hg]
 have ib : ∀ o, w'.frozen? ⟨b, o, none⟩ = w.frozen? ⟨b, o, none⟩ := fun o => by simp only [World.frozen?, hb]
 have ig : ∀ o, w'.frozen? ⟨g, o, none⟩ = w.frozen? ⟨g, o, none⟩ := fun o => by simp only [World.frozen?, hg]
 exact ⟨h.bg, fun i hi => by rw [eb]; exact h.fst i hi, fun i hi => by rw [eb]; exact h.lst i hi, fun i hi => by rw [eb]; exact h.msk i hi, by simp only [eb]; exact h.sl, by rw [eb]; exact h.cn,
  fun s hs => by rw [eg]; exact h.la s hs, fun s hs => by rw [eg]; exact h.lb s hs, fun s hs => by rw [eg]; exact h.lv s hs, fun s hs => by rw [eg]; exact h.lt s hs, fun o => by rw [ib]; exact h.fb o, fun o => by rw [ig]; exact h.fg o⟩
theorem Rep.alloc (h : Rep w b g n F L M c A B V T) (o : Obj) : Rep (w.alloc o) b g n F L M c A B V T :=
 h.kept (Below.heap_alloc w o b h.lt_b) (Below.heap_alloc w o g h.lt_g)
theorem Rep.setF (h : Rep w b g n F L M c A B V T) (k : Nat) (hk : k < 256) (x : Nat) : Rep (w.setCell ⟨b, k, none⟩ (.int .i64 (x : Int))) b g n (upd F k x) L M c A B V T :=
 ⟨h.bg, fun i hi => by
  by_cases e : i = k
  ·subst e; rw [upd_same]; exact set_same _ _ _ _ (h.fst i hi)
  ·rw [upd_other _ _ _ _ e, set_other _ _ _ _ _ _ (by omega)]; exact h.fst i hi, fun i hi => by
  rw [set_other _ _ _ _ _ _ (by omega)]; exact h.lst i hi, fun i hi => by
  rw [set_other _ _ _ _ _ _ (by omega)]; exact h.msk i hi, by
  obtain ⟨cp, q⟩ := h.sl; exact ⟨cp, by rw [set_other _ _ _ _ _ _ (by omega)]; exact q⟩, by
  rw [set_other _ _ _ _ _ _ (by omega)]; exact h.cn, fun s hs => by
  rw [set_other _ _ _ _ _ _ (by have := h.bg; omega)]; exact h.la s hs, fun s hs => by
  rw [set_other _ _ _ _ _ _ (by have := h.bg; omega)]; exact h.lb s hs, fun s hs => by
  rw [set_other _ _ _ _ _ _ (by have := h.bg; omega)]; exact h.lv s hs, fun s hs => by
  rw [set_other _ _ _ _ _ _ (by have := h.bg; omega)]; exact h.lt s hs,
  fun o => by simpa using h.fb o, fun o => by simpa using h.fg o⟩
theorem Rep.setL (h : Rep w b g n F L M c A B V T) (k : Nat) (hk : k < 256) (x : Nat) : Rep (w.setCell ⟨b, 256 + k, none⟩ (.int .i64 (x : Int))) b g n F (upd L k x) M c A B V T :=
 ⟨h.bg, fun i hi => by
  rw [set_other _ _ _ _ _ _ (by omega)]; exact h.fst i hi, fun i hi => by
  by_cases e : i = k
  ·subst e; rw [upd_same]; exact set_same _ _ _ _ (h.lst i hi)
  ·rw [upd_other _ _ _ _ e, set_other _ _ _ _ _ _ (by omega)]; exact h.lst i hi, fun i hi => by
  rw [set_other _ _ _ _ _ _ (by omega)]; exact h.msk i hi, by
  obtain ⟨cp, q⟩ := h.sl; exact ⟨cp, by rw [set_other _ _ _ _ _ _ (by omega)]; exact q⟩, by
  rw [set_other _ _ _ _ _ _ (by omega)]; exact h.cn, fun s hs => by
  rw [set_other _ _ _ _ _ _ (by have := h.bg; omega)]; exact h.la s hs, fun s hs => by
  rw [set_other _ _ _ _ _ _ (by have := h.bg; omega)]; exact h.lb s hs, fun s hs => by
  rw [set_other _ _ _ _ _ _ (by have := h.bg; omega)]; exact h.lv s hs, fun s hs => by
  rw [set_other _ _ _ _ _ _ (by have := h.bg; omega)]; exact h.lt s hs,
  fun o => by simpa using h.fb o, fun o => by simpa using h.fg o⟩
theorem Rep.setM (h : Rep w b g n F L M c A B V T) (k : Nat) (hk : k < 4) (x : Int) : Rep (w.setCell ⟨b, 512 + k, none⟩ (.int .u64 x)) b g n F L (upd M k x) c A B V T :=
 ⟨h.bg, fun i hi => by
  rw [set_other _ _ _ _ _ _ (by omega)]; exact h.fst i hi, fun i hi => by
  rw [set_other _ _ _ _ _ _ (by omega)]; exact h.lst i hi, fun i hi => by
  by_cases e : i = k
  ·subst e; rw [upd_same]; exact set_same _ _ _ _ (h.msk i hi)
  ·rw [upd_other _ _ _ _ e, set_other _ _ _ _ _ _ (by omega)]; exact h.msk i hi, by
  obtain ⟨cp, q⟩ := h.sl; exact ⟨cp, by rw [set_other _ _ _ _ _ _ (by omega)]; exact q⟩, by
  rw [set_other _ _ _ _ _ _ (by omega)]; exact h.cn, fun s hs => by
  rw [set_other _ _ _ _ _ _ (by have := h.bg; omega)]; exact h.la s hs, fun s hs => by
  rw [set_other _ _ _ _ _ _ (by have := h.bg; omega)]; exact h.lb s hs, fun s hs => by
  rw [set_other _ _ _ _ _ _ (by have := h.bg; omega)]; exact h.lv s hs, fun s hs => by
  rw [set_other _ _ _ _ _ _ (by have := h.bg; omega)]; exact h.lt s hs,
  fun o => by simpa using h.fb o, fun o => by simpa using h.fg o⟩
theorem Rep.setC (h : Rep w b g n F L M c A B V T) (x : Nat) : Rep (w.setCell ⟨b, 517, none⟩ (.int .i64 (x : Int))) b g n F L M x A B V T :=
 ⟨h.bg, fun i hi => by
  rw [set_other _ _ _ _ _ _ (by omega)]; exact h.fst i hi, fun i hi => by
  rw [set_other _ _ _ _ _ _ (by omega)]; exact h.lst i hi, fun i hi => by
  rw [set_other _ _ _ _ _ _ (by omega)]; exact h.msk i hi, by
  obtain ⟨cp, q⟩ := h.sl; exact ⟨cp, by rw [set_other _ _ _ _ _ _ (by omega)]; exact q⟩, set_same _ _ _ _ h.cn, fun s hs => by
  rw [set_other _ _ _ _ _ _ (by have := h.bg; omega)]; exact h.la s hs, fun s hs => by
  rw [set_other _ _ _ _ _ _ (by have := h.bg; omega)]; exact h.lb s hs, fun s hs => by
  rw [set_other _ _ _ _ _ _ (by have := h.bg; omega)]; exact h.lv s hs, fun s hs => by
  rw [set_other _ _ _ _ _ _ (by have := h.bg; omega)]; exact h.lt s hs,
  fun o => by simpa using h.fb o, fun o => by simpa using h.fg o⟩
theorem Rep.setA (h : Rep w b g n F L M c A B V T) (k : Nat) (hk : k ≤ n) (x : Nat) : Rep (w.setCell ⟨g, k * 4, none⟩ (.int .i64 (x : Int))) b g n F L M c (upd A k x) B V T :=
 ⟨h.bg, fun i hi => by
  rw [set_other _ _ _ _ _ _ (by have := h.bg; omega)]; exact h.fst i hi, fun i hi => by
  rw [set_other _ _ _ _ _ _ (by have := h.bg; omega)]; exact h.lst i hi, fun i hi => by
  rw [set_other _ _ _ _ _ _ (by have := h.bg; omega)]; exact h.msk i hi, by
  obtain ⟨cp, q⟩ := h.sl; exact ⟨cp, by rw [set_other _ _ _ _ _ _ (by have := h.bg; omega)]; exact q⟩, by
  rw [set_other _ _ _ _ _ _ (by have := h.bg; omega)]; exact h.cn, fun s hs => by
  by_cases e : s = k
  ·subst e; rw [upd_same]; exact set_same _ _ _ _ (h.la s hs)
  ·rw [upd_other _ _ _ _ e, set_other _ _ _ _ _ _ (by omega)]; exact h.la s hs, fun s hs => by
  rw [set_other _ _ _ _ _ _ (by omega)]; exact h.lb s hs, fun s hs => by
  rw [set_other _ _ _ _ _ _ (by omega)]; exact h.lv s hs, fun s hs => by
  rw [set_other _ _ _ _ _ _ (by omega)]; exact h.lt s hs,
  fun o => by simpa using h.fb o, fun o => by simpa using h.fg o⟩
theorem Rep.setB (h : Rep w b g n F L M c A B V T) (k : Nat) (hk : k ≤ n) (x : Nat) : Rep (w.setCell ⟨g, k * 4 + 1, none⟩ (.int .i64 (x : Int))) b g n F L M c A (upd B k x) V T :=
 ⟨h.bg, fun i hi => by
  rw [set_other _ _ _ _ _ _ (by have := h.bg; omega)]; exact h.fst i hi, fun i hi => by
  rw [set_other _ _ _ _ _ _ (by have := h.bg; omega)]; exact h.lst i hi, fun i hi => by
  rw [set_other _ _ _ _ _ _ (by have := h.bg; omega)]; exact h.msk i hi, by
  obtain ⟨cp, q⟩ := h.sl; exact ⟨cp, by rw [set_other _ _ _ _ _ _ (by have := h.bg; omega)]; exact q⟩, by
  rw [set_other _ _ _ _ _ _ (by have := h.bg; omega)]; exact h.cn, fun s hs => by
  rw [set_other _ _ _ _ _ _ (by omega)]; exact h.la s hs, fun s hs => by
  by_cases e : s = k
  ·subst e; rw [upd_same]; exact set_same _ _ _ _ (h.lb s hs)
  ·rw [upd_other _ _ _ _ e, set_other _ _ _ _ _ _ (by omega)]; exact h.lb s hs, fun s hs => by
  rw [set_other _ _ _ _ _ _ (by omega)]; exact h.lv s hs, fun s hs => by
  rw [set_other _ _ _ _ _ _ (by omega)]; exact h.lt s hs,
  fun o => by simpa using h.fb o, fun o => by simpa using h.fg o⟩
theorem Rep.setV (h : Rep w b g n F L M c A B V T) (k : Nat) (hk : k ≤ n) (x : Nat) : Rep (w.setCell ⟨g, k * 4 + 2, none⟩ (.int .u8 (x : Int))) b g n F L M c A B (upd V k x) T :=
 ⟨h.bg, fun i hi => by
  rw [set_other _ _ _ _ _ _ (by have := h.bg; omega)]; exact h.fst i hi, fun i hi => by
  rw [set_other _ _ _ _ _ _ (by have := h.bg; omega)]; exact h.lst i hi, fun i hi => by
  rw [set_other _ _ _ _ _ _ (by have := h.bg; omega)]; exact h.msk i hi, by
  obtain ⟨cp, q⟩ := h.sl; exact ⟨cp, by rw [set_other _ _ _ _ _ _ (by have := h.bg; omega)]; exact q⟩, by
  rw [set_other _ _ _ _ _ _ (by have := h.bg; omega)]; exact h.cn, fun s hs => by
  rw [set_other _ _ _ _ _ _ (by omega)]; exact h.la s hs, fun s hs => by
  rw [set_other _ _ _ _ _ _ (by omega)]; exact h.lb s hs, fun s hs => by
  by_cases e : s = k
  ·subst e; rw [upd_same]; exact set_same _ _ _ _ (h.lv s hs)
  ·rw [upd_other _ _ _ _ e, set_other _ _ _ _ _ _ (by omega)]; exact h.lv s hs, fun s hs => by
  rw [set_other _ _ _ _ _ _ (by omega)]; exact h.lt s hs,
  fun o => by simpa using h.fb o, fun o => by simpa using h.fg o⟩
theorem Rep.setT (h : Rep w b g n F L M c A B V T) (k : Nat) (hk : k ≤ n) (x : Bool) : Rep (w.setCell ⟨g, k * 4 + 3, none⟩ (.bool x)) b g n F L M c A B V (upd T k x) :=
 ⟨h.bg, fun i hi => by
  rw [set_other _ _ _ _ _ _ (by have := h.bg; omega)]; exact h.fst i hi, fun i hi => by
  rw [set_other _ _ _ _ _ _ (by have := h.bg; omega)]; exact h.lst i hi, fun i hi => by
  rw [set_other _ _ _ _ _ _ (by have := h.bg; omega)]; exact h.msk i hi, by
  obtain ⟨cp, q⟩ := h.sl; exact ⟨cp, by rw [set_other _ _ _ _ _ _ (by have := h.bg; omega)]; exact q⟩, by
  rw [set_other _ _ _ _ _ _ (by have := h.bg; omega)]; exact h.cn, fun s hs => by
  rw [set_other _ _ _ _ _ _ (by omega)]; exact h.la s hs, fun s hs => by
  rw [set_other _ _ _ _ _ _ (by omega)]; exact h.lb s hs, fun s hs => by
  rw [set_other _ _ _ _ _ _ (by omega)]; exact h.lv s hs, fun s hs => by
  by_cases e : s = k
  ·subst e; rw [upd_same]; exact set_same _ _ _ _ (h.lt s hs)
  ·rw [upd_other _ _ _ _ e, set_other _ _ _ _ _ _ (by omega)]; exact h.lt s hs,
  fun o => by simpa using h.fb o, fun o => by simpa using h.fg o⟩
end
end Go.Proofs.YtjlbmmiomfpgiaaGreatDoor.Bq
namespace Go.Proofs.YtjlbmmiomfpgiaaGreatDoor.Bq
set_option maxRecDepth 100000
open Go.RowKit
structure Only (b g : Nat) (w w' : World) : Prop where
 os : w'.os = w.os
 tape : w'.tape = w.tape
 output : w'.output = w.output
 size : w.heap.size ≤ w'.heap.size
 block : ∀ k, k < w.heap.size → k ≠ b → k ≠ g → w'.heap[k]? = w.heap[k]?
theorem Only.refl (b g : Nat) (w : World) : Only b g w w := ⟨rfl, rfl, rfl, Nat.le_refl _, fun _ _ _ _ => rfl⟩
theorem Only.drew {b g : Nat} {w w' : World} (h : Only b g w w') : Only b g w w'.drew := ⟨h.os, h.tape, h.output, h.size, h.block⟩
theorem Only.alloc {b g : Nat} {w w' : World} (h : Only b g w w') (o : Obj) : Only b g w (w'.alloc o) :=
 ⟨h.os, h.tape, h.output, Nat.le_trans h.size (by simp), fun k hk a c => by rw [Below.heap_alloc _ _ _ (Nat.lt_of_lt_of_le hk h.size)]; exact h.block k hk a c⟩
theorem Only.set {b g : Nat} {w w' : World} (h : Only b g w w') (p : Addr) (x : Value) (hp : p.block = b ∨ p.block = g) : Only b g w (w'.setCell p x) :=
 ⟨h.os, h.tape, h.output, by simp [World.setCell]; exact h.size, fun k hk a c => by rw [Below.heap_setCell _ _ _ _ (by rcases hp with e | e <;> omega)]; exact h.block k hk a c⟩
def orBit (m : Int) (lv : Nat) : Int := bits BinOp.or IntKind.u64 m (IntKind.u64.wrap (2 ^ (lv % 64)))
section
variable {w : World} {b g n : Nat} {F L : Nat → Nat} {M : Nat → Int} {c : Nat} {A B V : Nat → Nat} {T : Nat → Bool}
set_option maxHeartbeats 1000000 in
theorem tie_first (h : Rep w b g n F L M c A B V T) (lv sp : Nat) (hlv : lv < 256) (hsp : sp ≤ n) (_hn : n ≤ 1024) (hc : c ≤ 1024) (h0 : L lv = 0) :
  Calls Tryz.prog 230 #[.pointer (some ⟨b, 0, none⟩), .int .u8 lv, .int .i64 sp] w fun e w' => e = .returned (.tuple #[]) ∧
   Rep w' b g n (upd F lv sp) (upd L lv sp) (upd M (lv / 64) (orBit (M (lv / 64)) lv)) (c + 1) (upd A sp 0) (upd B sp 0) (upd V sp lv) (upd T sp true) ∧ Only b g w w' := by
 have H : Hid (Rep w b g n F L M c A B V T) := h
 have e1 := h.lst lv hlv
 rw [h0] at e1
 have e1' : w.cell? ⟨b, 256 + lv, none⟩ = some (.int .i64 0) := e1
 have e2 := h.fst lv hlv
 obtain ⟨cp, e3⟩ := h.sl
 have e4 := h.cn
 have e5 := h.msk (lv / 64) (by omega)
 have e6 := h.la sp hsp
 have e7 := h.lb sp hsp
 have e8 := h.lv sp hsp
 have e9 := h.lt sp hsp
 have fb := h.fb
 have fg := h.fg
 have hbg := h.bg
 have hgb : g ≠ b := fun e => hbg e.symm
 clear e1 h h0
 go_enter Tryz.func230, Tryz.ntmps230
 go_wp2
 go_region
 go_wp2
 go_end0
 refine ⟨rfl, ?_, ?_⟩
 ·exact ((((((((H.out.setA sp hsp 0).setB sp hsp 0).setV sp hsp lv).setT sp hsp true).setF lv hlv sp).setM (lv / 64) (by omega) _).setL lv hlv sp).setC (c + 1)).drew
 ·exact ((((((((((Only.refl b g w).set _ _ (Or.inr rfl)).set _ _ (Or.inr rfl)).set _ _ (Or.inr rfl)).set _ _ (Or.inr rfl)).set _ _ (Or.inl rfl)).set _ _ (Or.inl rfl)).set _ _ (Or.inl rfl)).set _ _ (Or.inl rfl))).drew
set_option maxHeartbeats 1000000 in
theorem tie_more (h : Rep w b g n F L M c A B V T) (lv sp la : Nat) (hlv : lv < 256) (hsp : sp ≤ n) (_hn : n ≤ 1024) (hc : c ≤ 1024) (h0 : L lv = la) (h1 : 1 ≤ la) (h2 : la ≤ n) (h3 : la ≠ sp) :
  Calls Tryz.prog 230 #[.pointer (some ⟨b, 0, none⟩), .int .u8 lv, .int .i64 sp] w fun e w' => e = .returned (.tuple #[]) ∧
   Rep w' b g n F (upd L lv sp) M (c + 1) (upd A sp la) (upd (upd B sp 0) la sp) (upd V sp lv) (upd T sp true) ∧ Only b g w w' := by
 have H : Hid (Rep w b g n F L M c A B V T) := h
 have e1 := h.lst lv hlv
 rw [h0] at e1
 have e2 := h.fst lv hlv
 obtain ⟨cp, e3⟩ := h.sl
 have e4 := h.cn
 have e6 := h.la sp hsp
 have e7 := h.lb sp hsp
 have e8 := h.lv sp hsp
 have e9 := h.lt sp hsp
 have e10 := h.lb la h2
 have fb := h.fb
 have fg := h.fg
 have hbg := h.bg
 have hgb : g ≠ b := fun e => hbg e.symm
 have hne : ((la : Int) == 0) = false := by rw [beq_eq_false_iff_ne]; omega
 have n0 : ¬ sp * 4 = la * 4 + 1 := by omega
 have n1 : ¬ sp * 4 + 1 = la * 4 + 1 := by omega
 have n2 : ¬ sp * 4 + 2 = la * 4 + 1 := by omega
 have n3 : ¬ sp * 4 + 3 = la * 4 + 1 := by omega
 clear h h0
 go_enter Tryz.func230, Tryz.ntmps230
 go_wp2
 go_end0
 refine ⟨rfl, ?_, ?_⟩
 ·exact (((((((H.out.setA sp hsp la).setB sp hsp 0).setV sp hsp lv).setT sp hsp true).setB la h2 sp).setL lv hlv sp).setC (c + 1))
 ·exact ((((((((Only.refl b g w).set _ _ (Or.inr rfl)).set _ _ (Or.inr rfl)).set _ _ (Or.inr rfl)).set _ _ (Or.inr rfl)).set _ _ (Or.inr rfl)).set _ _ (Or.inl rfl)).set _ _ (Or.inl rfl))
def andBit (m : Int) (lv : Nat) : Int := bits BinOp.andNot IntKind.u64 m (IntKind.u64.wrap (2 ^ (lv % 64)))
set_option maxHeartbeats 1000000 in
theorem untie_only (h : Rep w b g n F L M (c + 1) A B V T) (sp lv : Nat) (hsp : sp ≤ n) (hlv : lv < 256) (_hn : n ≤ 1024) (hc : c ≤ 1024) (hA : A sp = 0) (hB : B sp = 0) (hV : V sp = lv) :
  Calls Tryz.prog 214 #[.pointer (some ⟨b, 0, none⟩), .int .i64 sp] w fun e w' => e = .returned (.tuple #[]) ∧
   Rep w' b g n (upd F lv 0) (upd L lv 0) (upd M (lv / 64) (andBit (M (lv / 64)) lv)) c (upd A sp 0) (upd B sp 0) (upd V sp 0) (upd T sp false) ∧ Only b g w w' := by
 have H : Hid (Rep w b g n F L M (c + 1) A B V T) := h
 obtain ⟨cp, e1⟩ := h.sl
 have e2 : w.cell? ⟨b, 517, none⟩ = some (.int .i64 ((c : Int) + 1)) := h.cn
 have e3 := h.la sp hsp
 have e4 := h.lb sp hsp
 have e5 := h.lv sp hsp
 have e6 := h.lt sp hsp
 rw [hA] at e3
 rw [hB] at e4
 rw [hV] at e5
 have e7 := h.fst lv hlv
 have e8 := h.lst lv hlv
 have e9 := h.msk (lv / 64) (by omega)
 have fb := h.fb
 have fg := h.fg
 have hbg := h.bg
 have hgb : g ≠ b := fun e => hbg e.symm
 have zb := h.lt_b
 have zg := h.lt_g
 have yb : ¬ b = w.heap.size := by omega
 have yg : ¬ g = w.heap.size := by omega
 have e3' : w.cell? ⟨g, sp * 4, none⟩ = some (.int .i64 0) := e3
 have e4' : w.cell? ⟨g, sp * 4 + 1, none⟩ = some (.int .i64 0) := e4
 clear h hA hB hV e3 e4
 go_enter Tryz.func214, Tryz.ntmps214
 go_wp2
 go_region
 go_wp2
 go_region
 go_wp2
 go_region
 go_wp2
 go_region
 go_wp2
 go_end0
 refine ⟨rfl, ?_, ?_⟩
 ·exact ((((((((((H.out.setF lv hlv 0).setL lv hlv 0).setM (lv / 64) (by omega) _).setA sp hsp 0).setB sp hsp 0).setV sp hsp 0).setT sp hsp false).setC c)).alloc _).drew.drew.drew.drew
 ·exact ((((((((((Only.refl b g w).set _ _ (Or.inl rfl)).set _ _ (Or.inl rfl)).set _ _ (Or.inl rfl)).set _ _ (Or.inr rfl)).set _ _ (Or.inr rfl)).set _ _ (Or.inr rfl)).set _ _ (Or.inr rfl)).set _ _ (Or.inl rfl)).alloc _).drew.drew.drew.drew
set_option maxHeartbeats 1000000 in
theorem untie_head (h : Rep w b g n F L M (c + 1) A B V T) (sp lv : Nat) (hsp : sp ≤ n) (hlv : lv < 256) (_hn : n ≤ 1024) (hc : c ≤ 1024) (y : Nat) (hA : A sp = 0) (hB : B sp = y) (hV : V sp = lv) (hy : y ≤ n) (hy1 : 1 ≤ y) (hys : y ≠ sp) :
  Calls Tryz.prog 214 #[.pointer (some ⟨b, 0, none⟩), .int .i64 sp] w fun e w' => e = .returned (.tuple #[]) ∧
   Rep w' b g n (upd F lv y) L M c (upd (upd A y 0) sp 0) (upd B sp 0) (upd V sp 0) (upd T sp false) ∧ Only b g w w' := by
 have H : Hid (Rep w b g n F L M (c + 1) A B V T) := h
 obtain ⟨cp, e1⟩ := h.sl
 have e2 : w.cell? ⟨b, 517, none⟩ = some (.int .i64 ((c : Int) + 1)) := h.cn
 have e3 := h.la sp hsp
 have e4 := h.lb sp hsp
 have e5 := h.lv sp hsp
 have e6 := h.lt sp hsp
 rw [hA] at e3
 rw [hB] at e4
 rw [hV] at e5
 have e7 := h.fst lv hlv
 have e8 := h.lst lv hlv
 have e9 := h.msk (lv / 64) (by omega)
 have fb := h.fb
 have fg := h.fg
 have hbg := h.bg
 have hgb : g ≠ b := fun e => hbg e.symm
 have zb := h.lt_b
 have zg := h.lt_g
 have yb : ¬ b = w.heap.size := by omega
 have yg : ¬ g = w.heap.size := by omega
 have ny : ((y : Int) == 0) = false := by rw [beq_eq_false_iff_ne]; omega
 have y0 : ¬ y * 4 = sp * 4 := by omega
 have y1 : ¬ y * 4 = sp * 4 + 1 := by omega
 have y2 : ¬ y * 4 = sp * 4 + 2 := by omega
 have y3 : ¬ y * 4 = sp * 4 + 3 := by omega
 have ey := h.la y hy
 have e3' : w.cell? ⟨g, sp * 4, none⟩ = some (.int .i64 0) := e3
 clear h hA hB hV e3
 go_enter Tryz.func214, Tryz.ntmps214
 go_wp2
 go_region
 go_wp2
 go_region
 go_wp2
 go_region
 go_wp2
 go_end0
 refine ⟨rfl, ?_, ?_⟩
 ·exact (((((((((H.out.setF lv hlv y).setA y hy 0).setA sp hsp 0).setB sp hsp 0).setV sp hsp 0).setT sp hsp false).setC c)).alloc _).drew.drew.drew
 ·exact (((((((((Only.refl b g w).set _ _ (Or.inl rfl)).set _ _ (Or.inr rfl)).set _ _ (Or.inr rfl)).set _ _ (Or.inr rfl)).set _ _ (Or.inr rfl)).set _ _ (Or.inr rfl)).set _ _ (Or.inl rfl)).alloc _).drew.drew.drew
set_option maxHeartbeats 1000000 in
theorem untie_last (h : Rep w b g n F L M (c + 1) A B V T) (sp lv : Nat) (hsp : sp ≤ n) (hlv : lv < 256) (_hn : n ≤ 1024) (hc : c ≤ 1024) (x f : Nat) (hA : A sp = x) (hB : B sp = 0) (hV : V sp = lv) (hF : F lv = f) (hf : 1 ≤ f) (hx : x ≤ n) (hx1 : 1 ≤ x) (hxs : x ≠ sp) :
  Calls Tryz.prog 214 #[.pointer (some ⟨b, 0, none⟩), .int .i64 sp] w fun e w' => e = .returned (.tuple #[]) ∧
   Rep w' b g n F (upd L lv x) M c (upd A sp 0) (upd (upd B x 0) sp 0) (upd V sp 0) (upd T sp false) ∧ Only b g w w' := by
 have H : Hid (Rep w b g n F L M (c + 1) A B V T) := h
 obtain ⟨cp, e1⟩ := h.sl
 have e2 : w.cell? ⟨b, 517, none⟩ = some (.int .i64 ((c : Int) + 1)) := h.cn
 have e3 := h.la sp hsp
 have e4 := h.lb sp hsp
 have e5 := h.lv sp hsp
 have e6 := h.lt sp hsp
 rw [hA] at e3
 rw [hB] at e4
 rw [hV] at e5
 have e7 := h.fst lv hlv
 have e8 := h.lst lv hlv
 have e9 := h.msk (lv / 64) (by omega)
 have fb := h.fb
 have fg := h.fg
 have hbg := h.bg
 have hgb : g ≠ b := fun e => hbg e.symm
 have zb := h.lt_b
 have zg := h.lt_g
 have yb : ¬ b = w.heap.size := by omega
 have yg : ¬ g = w.heap.size := by omega
 have nx : ((x : Int) == 0) = false := by rw [beq_eq_false_iff_ne]; omega
 have x0 : ¬ x * 4 + 1 = sp * 4 := by omega
 have x1 : ¬ x * 4 + 1 = sp * 4 + 1 := by omega
 have x2 : ¬ x * 4 + 1 = sp * 4 + 2 := by omega
 have x3 : ¬ x * 4 + 1 = sp * 4 + 3 := by omega
 have ex := h.lb x hx
 have nf : ((f : Int) == 0) = false := by rw [beq_eq_false_iff_ne]; omega
 rw [hF] at e7
 have e4' : w.cell? ⟨g, sp * 4 + 1, none⟩ = some (.int .i64 0) := e4
 clear h hA hB hV hF e4
 go_enter Tryz.func214, Tryz.ntmps214
 go_wp2
 go_region
 go_wp2
 go_region
 go_wp2
 go_region
 go_wp2
 go_end0
 refine ⟨rfl, ?_, ?_⟩
 ·exact (((((((((H.out.setB x hx 0).setL lv hlv x).setA sp hsp 0).setB sp hsp 0).setV sp hsp 0).setT sp hsp false).setC c)).alloc _).drew.drew.drew
 ·exact (((((((((Only.refl b g w).set _ _ (Or.inr rfl)).set _ _ (Or.inl rfl)).set _ _ (Or.inr rfl)).set _ _ (Or.inr rfl)).set _ _ (Or.inr rfl)).set _ _ (Or.inr rfl)).set _ _ (Or.inl rfl)).alloc _).drew.drew.drew
set_option maxHeartbeats 1000000 in
theorem untie_mid (h : Rep w b g n F L M (c + 1) A B V T) (sp lv : Nat) (hsp : sp ≤ n) (hlv : lv < 256) (_hn : n ≤ 1024) (hc : c ≤ 1024) (x y f : Nat) (hA : A sp = x) (hB : B sp = y) (hV : V sp = lv) (hF : F lv = f) (hf : 1 ≤ f) (hx : x ≤ n) (hx1 : 1 ≤ x) (hxs : x ≠ sp) (hy : y ≤ n) (hy1 : 1 ≤ y) (hys : y ≠ sp) :
  Calls Tryz.prog 214 #[.pointer (some ⟨b, 0, none⟩), .int .i64 sp] w fun e w' => e = .returned (.tuple #[]) ∧
   Rep w' b g n F L M c (upd (upd A y x) sp 0) (upd (upd B x y) sp 0) (upd V sp 0) (upd T sp false) ∧ Only b g w w' := by
 have H : Hid (Rep w b g n F L M (c + 1) A B V T) := h
 obtain ⟨cp, e1⟩ := h.sl
 have e2 : w.cell? ⟨b, 517, none⟩ = some (.int .i64 ((c : Int) + 1)) := h.cn
 have e3 := h.la sp hsp
 have e4 := h.lb sp hsp
 have e5 := h.lv sp hsp
 have e6 := h.lt sp hsp
 rw [hA] at e3
 rw [hB] at e4
 rw [hV] at e5
 have e7 := h.fst lv hlv
 have e8 := h.lst lv hlv
 have e9 := h.msk (lv / 64) (by omega)
 have fb := h.fb
 have fg := h.fg
 have hbg := h.bg
 have hgb : g ≠ b := fun e => hbg e.symm
 have zb := h.lt_b
 have zg := h.lt_g
 have yb : ¬ b = w.heap.size := by omega
 have yg : ¬ g = w.heap.size := by omega
 have ny : ((y : Int) == 0) = false := by rw [beq_eq_false_iff_ne]; omega
 have y0 : ¬ y * 4 = sp * 4 := by omega
 have y1 : ¬ y * 4 = sp * 4 + 1 := by omega
 have y2 : ¬ y * 4 = sp * 4 + 2 := by omega
 have y3 : ¬ y * 4 = sp * 4 + 3 := by omega
 have ey := h.la y hy
 have nx : ((x : Int) == 0) = false := by rw [beq_eq_false_iff_ne]; omega
 have x0 : ¬ x * 4 + 1 = sp * 4 := by omega
 have x1 : ¬ x * 4 + 1 = sp * 4 + 1 := by omega
 have x2 : ¬ x * 4 + 1 = sp * 4 + 2 := by omega
 have x3 : ¬ x * 4 + 1 = sp * 4 + 3 := by omega
 have ex := h.lb x hx
 have nf : ((f : Int) == 0) = false := by rw [beq_eq_false_iff_ne]; omega
 rw [hF] at e7
 have xy : ¬ x * 4 + 1 = y * 4 := by omega
 clear h hA hB hV hF
 go_enter Tryz.func214, Tryz.ntmps214
 go_wp2
 go_region
 go_wp2
 go_region
 go_wp2
 go_region
 go_wp2
 go_end0
 refine ⟨rfl, ?_, ?_⟩
 ·exact (((((((((H.out.setB x hx y).setA y hy x).setA sp hsp 0).setB sp hsp 0).setV sp hsp 0).setT sp hsp false).setC c)).alloc _).drew.drew.drew
 ·exact (((((((((Only.refl b g w).set _ _ (Or.inr rfl)).set _ _ (Or.inr rfl)).set _ _ (Or.inr rfl)).set _ _ (Or.inr rfl)).set _ _ (Or.inr rfl)).set _ _ (Or.inr rfl)).set _ _ (Or.inl rfl)).alloc _).drew.drew.drew
end
end Go.Proofs.YtjlbmmiomfpgiaaGreatDoor.Bq
namespace Go.Proofs.YtjlbmmiomfpgiaaGreatDoor.Bq
set_option maxRecDepth 100000
def QL (R : List (Nat × Nat)) (lv : Nat) : List Nat := (R.filter (fun it => it.2 == lv)).map (fun it => it.1 + 1)
def Chain (A B : Nat → Nat) : Nat → List Nat → Prop
 | _, [] => True
 | p, x :: xs => A x = p ∧ B x = xs.headD 0 ∧ Chain A B x xs
theorem chain_congr (A B A' B' : Nat → Nat) : ∀ (l : List Nat) (p : Nat), (∀ s ∈ l, A' s = A s ∧ B' s = B s) → Chain A B p l → Chain A' B' p l
 | [], _, _, _ => trivial
 | x :: xs, p, h, hc => by
  obtain ⟨a, b, c⟩ := hc
  obtain ⟨ha, hb⟩ := h x (by simp)
  exact ⟨ha.trans a, hb.trans b, chain_congr A B A' B' xs x (fun s hs => h s (by simp [hs])) c⟩
theorem lastD_mem : ∀ (l : List Nat) (p : Nat), l ≠ [] → l.getLastD p ∈ l
 | [], _, h => absurd rfl h
 | [x], p, _ => by simp
 | x :: y :: ys, p, _ => by
  have := lastD_mem (y :: ys) x (by simp)
  rw [List.getLastD_cons]
  exact List.mem_cons_of_mem _ this
theorem chain_snoc (A B A' B' : Nat → Nat) (sp : Nat) : ∀ (l : List Nat) (p : Nat), l.Nodup → Chain A B p l → A' sp = l.getLastD p → B' sp = 0 → (∀ s ∈ l, A' s = A s) →
  (∀ s ∈ l, B' s = if s = l.getLastD p then sp else B s) → Chain A' B' p (l ++ [sp])
 | [], p, _, _, h1, h2, _, _ => ⟨h1, h2, trivial⟩
 | x :: xs, p, hn, hc, h1, h2, h3, h4 => by
  obtain ⟨a, b, c⟩ := hc
  rw [List.nodup_cons] at hn
  rw [List.getLastD_cons] at h1 h4
  refine ⟨(h3 x (by simp)).trans a, ?_, chain_snoc A B A' B' sp xs x hn.2 c h1 h2 (fun s hs => h3 s (by simp [hs])) (fun s hs => h4 s (by simp [hs]))⟩
  rw [h4 x (by simp)]
  cases xs with
  | nil => simp
  | cons y ys =>
   have hx : x ≠ (y :: ys).getLastD x := fun e => hn.1 (by rw [e]; exact lastD_mem _ _ (by simp))
   rw [if_neg hx, b]
   rfl
theorem chain_mid (A B : Nat → Nat) (sp : Nat) (l2 : List Nat) : ∀ (l1 : List Nat) (p : Nat), Chain A B p (l1 ++ sp :: l2) → A sp = l1.getLastD p ∧ B sp = l2.headD 0 ∧ Chain A B sp l2
 | [], p, h => ⟨h.1, h.2.1, h.2.2⟩
 | x :: xs, p, h => by
  have := chain_mid A B sp l2 xs x h.2.2
  rw [List.getLastD_cons]
  exact this
theorem chain_remove (A B A' B' : Nat → Nat) (sp : Nat) (l2 : List Nat) : ∀ (l1 : List Nat) (p : Nat), (l1 ++ sp :: l2).Nodup → Chain A B p (l1 ++ sp :: l2) →
  (∀ s ∈ l1, A' s = A s) → (∀ s ∈ l2, A' s = if s = l2.headD 0 then l1.getLastD p else A s) → (∀ s ∈ l1, B' s = if s = l1.getLastD p then l2.headD 0 else B s) → (∀ s ∈ l2, B' s = B s) → Chain A' B' p (l1 ++ l2)
 | [], p, hn, hc, _, h2, _, h4 => by
  cases l2 with
  | nil => trivial
  | cons y ys =>
   obtain ⟨_, _, a, b, c⟩ := hc
   simp only [List.nil_append, List.nodup_cons] at hn
   refine ⟨by rw [h2 y (by simp)]; simp, (h4 y (by simp)).trans b, chain_congr A B A' B' ys y (fun s hs => ⟨?_, h4 s (by simp [hs])⟩) c⟩
   rw [h2 s (by simp [hs]), if_neg]
   intro e
   simp at e
   subst e
   exact hn.2.1 hs
 | x :: xs, p, hn, hc, h1, h2, h3, h4 => by
  obtain ⟨a, b, c⟩ := hc
  simp only [List.cons_append, List.nodup_cons] at hn
  rw [List.getLastD_cons] at h2 h3
  refine ⟨(h1 x (by simp)).trans a, ?_, chain_remove A B A' B' sp l2 xs x hn.2 c (fun s hs => h1 s (by simp [hs])) h2 (fun s hs => h3 s (by simp [hs])) h4⟩
  rw [h3 x (by simp)]
  cases xs with
  | nil => simp
  | cons y ys =>
   have hx : x ≠ (y :: ys).getLastD x := fun e => hn.1 (by
    have hm : x ∈ y :: ys := by rw [e]; exact lastD_mem _ _ (by simp)
    exact List.mem_append_left _ hm)
   rw [if_neg hx, b]
   rfl
structure Inv (n : Nat) (F L m : Nat → Nat) (c : Nat) (A B V : Nat → Nat) (T : Nat → Bool) (R : List (Nat × Nat)) : Prop where
 ids : (R.map (·.1)).Nodup
 rng : ∀ it ∈ R, it.1 < n ∧ it.2 < 256
 there : ∀ s, s ≤ n → (T s = true ↔ ∃ it ∈ R, it.1 + 1 = s)
 lev : ∀ it ∈ R, V (it.1 + 1) = it.2
 nolev : ∀ s, s ≤ n → T s = false → V s = 0
 ch : ∀ lv, lv < 256 → Chain A B 0 (QL R lv)
 hd : ∀ lv, lv < 256 → F lv = (QL R lv).headD 0
 tl : ∀ lv, lv < 256 → L lv = (QL R lv).getLastD 0
 bit : ∀ lv, lv < 256 → (m (lv / 64)).testBit (lv % 64) = !(QL R lv).isEmpty
 mlt : ∀ i, i < 4 → m i < 18446744073709551616
 cnt : c = R.length
theorem mem_QL {R : List (Nat × Nat)} {lv s : Nat} : s ∈ QL R lv ↔ ∃ it ∈ R, it.2 = lv ∧ it.1 + 1 = s := by
 unfold QL
 simp only [List.mem_map, List.mem_filter, beq_iff_eq]
 constructor
 ·rintro ⟨it, ⟨a, b⟩, c⟩; exact ⟨it, a, b, c⟩
 ·rintro ⟨it, a, b, c⟩; exact ⟨it, ⟨a, b⟩, c⟩
theorem QL_snoc (R : List (Nat × Nat)) (id lv k : Nat) : QL (R ++ [(id, lv)]) k = if k = lv then QL R k ++ [id + 1] else QL R k := by
 unfold QL
 rw [List.filter_append, List.map_append]
 by_cases h : k = lv
 ·subst h; simp
 ·rw [if_neg h]
  have : (lv == k) = false := by rw [beq_eq_false_iff_ne]; exact fun e => h e.symm
  simp [this]
theorem nodup_map_add (l : List Nat) (h : l.Nodup) : (l.map (· + 1)).Nodup := by
 rw [List.Nodup, List.pairwise_map]
 exact List.Pairwise.imp (fun hne e => hne (by omega)) h
theorem QL_nodup {R : List (Nat × Nat)} (h : (R.map (·.1)).Nodup) (lv : Nat) : (QL R lv).Nodup := by
 have h1 : ((R.filter (fun it => it.2 == lv)).map (·.1)).Nodup := h.sublist (List.Sublist.map _ (List.filter_sublist))
 have e : QL R lv = ((R.filter (fun it => it.2 == lv)).map (·.1)).map (· + 1) := by unfold QL; rw [List.map_map]; rfl
 rw [e]
 exact nodup_map_add _ h1
theorem orBit_nat (x lv : Nat) (h : x < 18446744073709551616) : orBit (x : Int) lv = ((x ||| 2 ^ (lv % 64) : Nat) : Int) := by
 have hp : 2 ^ (lv % 64) ≤ 2 ^ 63 := Nat.pow_le_pow_right (by decide) (by omega)
 have h63 : (2 : Nat) ^ 63 = 9223372036854775808 := by decide
 unfold orBit
 have e : IntKind.u64.wrap ((2 : Int) ^ (lv % 64)) = ((2 ^ (lv % 64) : Nat) : Int) := by
  have c : ((2 : Int) ^ (lv % 64)) = ((2 ^ (lv % 64) : Nat) : Int) := by simp
  rw [c, IntKind.wrap_u64]
  generalize 2 ^ (lv % 64) = q at *
  omega
 rw [e, bits_or_u64_nat x _ h (by omega)]
theorem andBit_nat (x lv : Nat) (h : x < 18446744073709551616) : andBit (x : Int) lv = ((x &&& (18446744073709551615 - 2 ^ (lv % 64)) : Nat) : Int) := by
 have hp : 2 ^ (lv % 64) ≤ 2 ^ 63 := Nat.pow_le_pow_right (by decide) (by omega)
 have h63 : (2 : Nat) ^ 63 = 9223372036854775808 := by decide
 unfold andBit
 have e : IntKind.u64.wrap ((2 : Int) ^ (lv % 64)) = ((2 ^ (lv % 64) : Nat) : Int) := by
  have c : ((2 : Int) ^ (lv % 64)) = ((2 ^ (lv % 64) : Nat) : Int) := by simp
  rw [c, IntKind.wrap_u64]
  generalize 2 ^ (lv % 64) = q at *
  omega
 rw [e, u64_andNot_nat x _ h (by omega)]
theorem or_lt (x lv : Nat) (h : x < 18446744073709551616) : x ||| 2 ^ (lv % 64) < 18446744073709551616 :=
 Nat.or_lt_two_pow (n := 64) h (Nat.pow_lt_pow_right (by decide) (by omega))
theorem and_lt (x y : Nat) (h : x < 18446744073709551616) : x &&& y < 18446744073709551616 := Nat.lt_of_le_of_lt Nat.and_le_left h
theorem or_bit (x k j : Nat) : (x ||| 2 ^ k).testBit j = (x.testBit j || decide (k = j)) := by
 rw [Nat.testBit_or, Nat.testBit_two_pow]
theorem and_bit (x k j : Nat) (hk : k < 64) (hj : j < 64) : (x &&& (18446744073709551615 - 2 ^ k)).testBit j = (x.testBit j && !decide (k = j)) := by
 rw [Nat.testBit_and]
 congr 1
 have e : 18446744073709551615 - 2 ^ k = 2 ^ 64 - (2 ^ k + 1) := by
  have : (2 : Nat) ^ 64 = 18446744073709551616 := by decide
  omega
 rw [e, Nat.testBit_two_pow_sub_succ (Nat.pow_lt_pow_right (by decide) hk), Nat.testBit_two_pow]
 simp [hj]
end Go.Proofs.YtjlbmmiomfpgiaaGreatDoor.Bq
namespace Go.Proofs.YtjlbmmiomfpgiaaGreatDoor.Bq
set_option maxRecDepth 100000
theorem QL_pos {R : List (Nat × Nat)} {lv s : Nat} (h : s ∈ QL R lv) : 1 ≤ s := by
 obtain ⟨it, _, _, e⟩ := mem_QL.1 h; omega
theorem headD_mem : ∀ (l : List Nat), l ≠ [] → l.headD 0 ∈ l
 | [], h => absurd rfl h
 | x :: xs, _ => by simp
section
variable {n : Nat} {F L m : Nat → Nat} {c : Nat} {A B V : Nat → Nat} {T : Nat → Bool} {R : List (Nat × Nat)}
theorem Inv.spot_le (h : Inv n F L m c A B V T R) {lv s : Nat} (hs : s ∈ QL R lv) : s ≤ n ∧ T s = true ∧ V s = lv ∧ 1 ≤ s := by
 obtain ⟨it, hi, e1, e2⟩ := mem_QL.1 hs
 have hr := h.rng it hi
 subst e2
 exact ⟨by omega, (h.there _ (by omega)).2 ⟨it, hi, rfl⟩, (h.lev it hi).trans e1, by omega⟩
theorem Inv.last_zero (h : Inv n F L m c A B V T R) (lv : Nat) (hlv : lv < 256) : L lv = 0 ↔ QL R lv = [] := by
 rw [h.tl lv hlv]
 constructor
 ·intro e
  apply Classical.byContradiction
  intro hne
  have := QL_pos (lastD_mem (QL R lv) 0 hne)
  omega
 ·intro e; rw [e]; rfl
theorem Inv.first_zero (h : Inv n F L m c A B V T R) (lv : Nat) (hlv : lv < 256) : F lv = 0 ↔ QL R lv = [] := by
 rw [h.hd lv hlv]
 constructor
 ·intro e
  apply Classical.byContradiction
  intro hne
  have := QL_pos (headD_mem (QL R lv) hne)
  omega
 ·intro e; rw [e]; rfl
theorem push_ids {id lv : Nat} (h : Inv n F L m c A B V T R) (hid : ∀ it ∈ R, it.1 ≠ id) : ((R ++ [(id, lv)]).map (·.1)).Nodup := by
 rw [List.map_append, List.nodup_append]
 refine ⟨h.ids, by simp, ?_⟩
 intro a ha b hb
 simp at hb
 subst hb
 obtain ⟨it, hi, rfl⟩ := List.mem_map.1 ha
 exact hid it hi
theorem push_rng {id lv : Nat} (h : Inv n F L m c A B V T R) (hi : id < n) (hlv : lv < 256) : ∀ it ∈ R ++ [(id, lv)], it.1 < n ∧ it.2 < 256 := by
 intro it hit
 rcases List.mem_append.1 hit with a | a
 ·exact h.rng it a
 ·simp at a; subst a; exact ⟨hi, hlv⟩
theorem push_there {id lv : Nat} (h : Inv n F L m c A B V T R) : ∀ s, s ≤ n → (upd T (id + 1) true s = true ↔ ∃ it ∈ R ++ [(id, lv)], it.1 + 1 = s) := by
 intro s hs
 by_cases e : s = id + 1
 ·subst e; rw [upd_same]; simp
 ·rw [upd_other _ _ _ _ e, h.there s hs]
  constructor
  ·rintro ⟨it, a, b⟩; exact ⟨it, by simp [a], b⟩
  ·rintro ⟨it, a, b⟩
   rcases List.mem_append.1 a with a | a
   ·exact ⟨it, a, b⟩
   ·simp at a; subst a; exact absurd b.symm e
theorem push_lev {id lv : Nat} (h : Inv n F L m c A B V T R) (hid : ∀ it ∈ R, it.1 ≠ id) : ∀ it ∈ R ++ [(id, lv)], upd V (id + 1) lv (it.1 + 1) = it.2 := by
 intro it hit
 rcases List.mem_append.1 hit with a | a
 ·rw [upd_other _ _ _ _ (by have := hid it a; omega)]; exact h.lev it a
 ·simp at a; subst a; exact upd_same _ _ _
theorem push_nolev {id lv : Nat} (h : Inv n F L m c A B V T R) : ∀ s, s ≤ n → upd T (id + 1) true s = false → upd V (id + 1) lv s = 0 := by
 intro s hs ht
 by_cases e : s = id + 1
 ·subst e; rw [upd_same] at ht; cases ht
 ·rw [upd_other _ _ _ _ e] at ht ⊢; exact h.nolev s hs ht
theorem push_notin {id : Nat} (hid : ∀ it ∈ R, it.1 ≠ id) (k : Nat) : id + 1 ∉ QL R k := by
 intro hm
 obtain ⟨it, a, _, e⟩ := mem_QL.1 hm
 exact hid it a (by omega)
theorem inv_push_first {id lv : Nat} (h : Inv n F L m c A B V T R) (hi : id < n) (hlv : lv < 256) (hid : ∀ it ∈ R, it.1 ≠ id) (he : QL R lv = []) :
  Inv n (upd F lv (id + 1)) (upd L lv (id + 1)) (upd m (lv / 64) (m (lv / 64) ||| 2 ^ (lv % 64))) (c + 1) (upd A (id + 1) 0) (upd B (id + 1) 0) (upd V (id + 1) lv) (upd T (id + 1) true) (R ++ [(id, lv)]) where
 ids := push_ids h hid
 rng := push_rng h hi hlv
 there := push_there h
 lev := push_lev h hid
 nolev := push_nolev h
 ch := by
  intro k hk
  rw [QL_snoc]
  split
  ·rename_i e; subst e
   rw [he]
   exact ⟨upd_same _ _ _, upd_same _ _ _, trivial⟩
  ·refine chain_congr A B _ _ _ _ (fun s hs => ?_) (h.ch k hk)
   have hne : s ≠ id + 1 := fun e => push_notin hid k (e ▸ hs)
   exact ⟨upd_other _ _ _ _ hne, upd_other _ _ _ _ hne⟩
 hd := by
  intro k hk
  rw [QL_snoc]
  split
  ·rename_i e; subst e; rw [he, upd_same]; rfl
  ·rename_i e; rw [upd_other _ _ _ _ e]; exact h.hd k hk
 tl := by
  intro k hk
  rw [QL_snoc]
  split
  ·rename_i e; subst e; rw [he, upd_same]; rfl
  ·rename_i e; rw [upd_other _ _ _ _ e]; exact h.tl k hk
 bit := by
  intro k hk
  rw [QL_snoc]
  by_cases e : k = lv
  ·subst e; rw [if_pos rfl, upd_same, or_bit]; simp
  ·rw [if_neg e]
   by_cases e2 : k / 64 = lv / 64
   ·rw [e2, upd_same, or_bit, ← e2, h.bit k hk]
    have : ¬ lv % 64 = k % 64 := by omega
    simp [this]
   ·rw [upd_other _ _ _ _ e2]; exact h.bit k hk
 mlt := by
  intro i hi'
  by_cases e : i = lv / 64
  ·subst e; rw [upd_same]; exact or_lt _ _ (h.mlt _ hi')
  ·rw [upd_other _ _ _ _ e]; exact h.mlt i hi'
 cnt := by rw [h.cnt]; simp
theorem inv_push_more {id lv : Nat} (h : Inv n F L m c A B V T R) (hi : id < n) (hlv : lv < 256) (hid : ∀ it ∈ R, it.1 ≠ id) (he : QL R lv ≠ []) :
  Inv n F (upd L lv (id + 1)) m (c + 1) (upd A (id + 1) (L lv)) (upd (upd B (id + 1) 0) (L lv) (id + 1)) (upd V (id + 1) lv) (upd T (id + 1) true) (R ++ [(id, lv)]) where
 ids := push_ids h hid
 rng := push_rng h hi hlv
 there := push_there h
 lev := push_lev h hid
 nolev := push_nolev h
 ch := by
  intro k hk
  have hlm : L lv ∈ QL R lv := by rw [h.tl lv hlv]; exact lastD_mem _ _ he
  have hls : L lv ≠ id + 1 := fun e => push_notin hid lv (e ▸ hlm)
  rw [QL_snoc]
  split
  ·rename_i e; subst e
   refine chain_snoc A B _ _ _ _ _ (QL_nodup h.ids _) (h.ch k hk) ?_ ?_ (fun s hs => ?_) (fun s hs => ?_)
   ·rw [upd_same]; exact h.tl k hk
   ·rw [upd_other _ _ _ _ (Ne.symm hls), upd_same]
   ·exact upd_other _ _ _ _ (fun e => push_notin hid k (e ▸ hs))
   ·rw [← h.tl k hk]
    by_cases e : s = L k
    ·subst e; rw [upd_same, if_pos rfl]
    ·have hne : s ≠ id + 1 := fun e' => push_notin hid k (e' ▸ hs)
     rw [upd_other _ _ _ _ e, if_neg e, upd_other _ _ _ _ hne]
  ·rename_i e
   refine chain_congr A B _ _ _ _ (fun s hs => ?_) (h.ch k hk)
   have hne : s ≠ id + 1 := fun e => push_notin hid k (e ▸ hs)
   have hnl : s ≠ L lv := by
    rintro rfl
    have a := (h.spot_le hs).2.2.1
    have b := (h.spot_le hlm).2.2.1
    omega
   exact ⟨upd_other _ _ _ _ hne, by rw [upd_other _ _ _ _ hnl, upd_other _ _ _ _ hne]⟩
 hd := by
  intro k hk
  rw [QL_snoc]
  split
  ·rename_i e; subst e
   rw [h.hd k hk]
   cases hq : QL R k with
   | nil => exact absurd hq he
   | cons x xs => rfl
  ·exact h.hd k hk
 tl := by
  intro k hk
  rw [QL_snoc]
  split
  ·rename_i e; subst e; rw [upd_same]; simp
  ·rename_i e; rw [upd_other _ _ _ _ e]; exact h.tl k hk
 bit := by
  intro k hk
  rw [QL_snoc]
  by_cases e : k = lv
  ·subst e
   rw [if_pos rfl, h.bit k hk]
   cases hq : QL R k with
   | nil => exact absurd hq he
   | cons x xs => rfl
  ·rw [if_neg e]; exact h.bit k hk
 mlt := h.mlt
 cnt := by rw [h.cnt]; simp
end
theorem QL_append (R1 R2 : List (Nat × Nat)) (k : Nat) : QL (R1 ++ R2) k = QL R1 k ++ QL R2 k := by
 unfold QL; rw [List.filter_append, List.map_append]
theorem QL_cons (id lv : Nat) (R : List (Nat × Nat)) (k : Nat) : QL ((id, lv) :: R) k = if k = lv then (id + 1) :: QL R k else QL R k := by
 unfold QL
 by_cases h : k = lv
 ·subst h; simp
 ·rw [if_neg h]
  have : (lv == k) = false := by rw [beq_eq_false_iff_ne]; exact fun e => h e.symm
  simp [this]
section
variable {n : Nat} {F L m : Nat → Nat} {c : Nat} {A B V : Nat → Nat} {T : Nat → Bool} {R1 R2 : List (Nat × Nat)} {id lv : Nat}
theorem cut_ids (h : Inv n F L m (c + 1) A B V T (R1 ++ (id, lv) :: R2)) : ((R1 ++ R2).map (·.1)).Nodup ∧ (∀ it ∈ R1 ++ R2, it.1 ≠ id) := by
 have h0 := h.ids
 rw [List.map_append, List.map_cons, List.nodup_append, List.nodup_cons] at h0
 obtain ⟨a, ⟨b1, b2⟩, d⟩ := h0
 constructor
 ·rw [List.map_append, List.nodup_append]
  exact ⟨a, b2, fun x hx y hy => d x hx y (by simp [hy])⟩
 ·intro it hit e
  rcases List.mem_append.1 hit with q | q
  ·exact d it.1 (List.mem_map_of_mem q) id (by simp) e
  ·exact b1 (by have := List.mem_map_of_mem (f := fun x : Nat × Nat => x.1) q; rw [← e]; exact this)
theorem inv_cut (h : Inv n F L m (c + 1) A B V T (R1 ++ (id, lv) :: R2)) (F' L' m' A' B' : Nat → Nat)
  (hF : ∀ k, k < 256 → F' k = if k = lv ∧ QL R1 lv = [] then (QL R2 lv).headD 0 else F k)
  (hL : ∀ k, k < 256 → L' k = if k = lv ∧ QL R2 lv = [] then (QL R1 lv).getLastD 0 else L k)
  (hA : ∀ s, s ≠ id + 1 → A' s = if QL R2 lv ≠ [] ∧ s = (QL R2 lv).headD 0 then (QL R1 lv).getLastD 0 else A s)
  (hB : ∀ s, s ≠ id + 1 → B' s = if QL R1 lv ≠ [] ∧ s = (QL R1 lv).getLastD 0 then (QL R2 lv).headD 0 else B s)
  (hm : ∀ k, k < 256 → (m' (k / 64)).testBit (k % 64) = if k = lv then !(QL R1 lv ++ QL R2 lv).isEmpty else (m (k / 64)).testBit (k % 64))
  (hml : ∀ i, i < 4 → m' i < 18446744073709551616) :
  Inv n F' L' m' c A' B' (upd V (id + 1) 0) (upd T (id + 1) false) (R1 ++ R2) := by
 obtain ⟨hids, hnot⟩ := cut_ids h
 have hmem : ∀ it, it ∈ R1 ++ R2 → it ∈ R1 ++ (id, lv) :: R2 := by
  intro it hit
  rcases List.mem_append.1 hit with q | q
  ·exact List.mem_append_left _ q
  ·exact List.mem_append_right _ (List.mem_cons_of_mem _ q)
 have hlv : lv < 256 := (h.rng (id, lv) (by simp)).2
 have hq : QL (R1 ++ (id, lv) :: R2) lv = QL R1 lv ++ (id + 1) :: QL R2 lv := by rw [QL_append, QL_cons, if_pos rfl]
 have hqo : ∀ k, k ≠ lv → QL (R1 ++ (id, lv) :: R2) k = QL (R1 ++ R2) k := by
  intro k hk; rw [QL_append, QL_cons, if_neg hk, QL_append]
 have hnd := QL_nodup h.ids lv
 rw [hq] at hnd
 have hch := h.ch lv hlv
 rw [hq] at hch
 have hnd2 := hnd
 rw [List.nodup_append, List.nodup_cons] at hnd2
 have hn1 : ∀ s ∈ QL R1 lv, s ≠ id + 1 := fun s hs e => hnd2.2.2 s hs (id + 1) (by simp) e
 have hn2 : ∀ s ∈ QL R2 lv, s ≠ id + 1 := fun s hs e => hnd2.2.1.1 (e ▸ hs)
 have hn12 : ∀ s ∈ QL R1 lv, s ∉ QL R2 lv := fun s hs hs2 => hnd2.2.2 s hs s (by simp [hs2]) rfl
 refine ⟨hids, fun it hit => h.rng it (hmem it hit), ?_, ?_, ?_, ?_, ?_, ?_, ?_, hml, ?_⟩
 ·intro s hs
  by_cases e : s = id + 1
  ·subst e
   rw [upd_same]
   constructor
   ·intro hf; cases hf
   ·rintro ⟨it, hit, e⟩; exact absurd (by omega) (hnot it hit)
  ·rw [upd_other _ _ _ _ e, h.there s hs]
   constructor
   ·rintro ⟨it, hit, e'⟩
    rcases List.mem_append.1 hit with q | q
    ·exact ⟨it, List.mem_append_left _ q, e'⟩
    ·rcases List.mem_cons.1 q with q | q
     ·subst q; exact absurd e'.symm e
     ·exact ⟨it, List.mem_append_right _ q, e'⟩
   ·rintro ⟨it, hit, e'⟩; exact ⟨it, hmem it hit, e'⟩
 ·intro it hit
  rw [upd_other _ _ _ _ (by have := hnot it hit; omega)]
  exact h.lev it (hmem it hit)
 ·intro s hs ht
  by_cases e : s = id + 1
  ·subst e; exact upd_same _ _ _
  ·rw [upd_other _ _ _ _ e] at ht ⊢; exact h.nolev s hs ht
 ·intro k hk
  by_cases e : k = lv
  ·subst e
   rw [QL_append]
   refine chain_remove A B A' B' (id + 1) (QL R2 k) (QL R1 k) 0 hnd hch (fun s hs => ?_) (fun s hs => ?_) (fun s hs => ?_) (fun s hs => ?_)
   ·rw [hA s (hn1 s hs), if_neg]
    rintro ⟨hne, e⟩
    exact hn12 s hs (by rw [e]; exact headD_mem _ hne)
   ·rw [hA s (hn2 s hs)]
    have hne : QL R2 k ≠ [] := by intro e; rw [e] at hs; cases hs
    by_cases e : s = (QL R2 k).headD 0
    ·rw [if_pos ⟨hne, e⟩, if_pos e]
    ·rw [if_neg (fun q => e q.2), if_neg e]
   ·rw [hB s (hn1 s hs)]
    have hne : QL R1 k ≠ [] := by intro e; rw [e] at hs; cases hs
    by_cases e : s = (QL R1 k).getLastD 0
    ·rw [if_pos ⟨hne, e⟩, if_pos e]
    ·rw [if_neg (fun q => e q.2), if_neg e]
   ·rw [hB s (hn2 s hs), if_neg]
    rintro ⟨hne, e⟩
    exact hn12 s (by rw [e]; exact lastD_mem _ _ hne) hs
  ·rw [← hqo k e]
   refine chain_congr A B A' B' _ _ (fun s hs => ?_) (h.ch k hk)
   have hv := (h.spot_le hs).2.2.1
   have hns : s ≠ id + 1 := by
    rintro rfl
    have := h.lev (id, lv) (by simp)
    simp only at this
    omega
   constructor
   ·rw [hA s hns, if_neg]
    rintro ⟨hne, e'⟩
    have hin : s ∈ QL (R1 ++ (id, lv) :: R2) lv := by rw [hq, e']; exact List.mem_append_right _ (List.mem_cons_of_mem _ (headD_mem _ hne))
    have := (h.spot_le hin).2.2.1
    omega
   ·rw [hB s hns, if_neg]
    rintro ⟨hne, e'⟩
    have hin : s ∈ QL (R1 ++ (id, lv) :: R2) lv := by rw [hq, e']; exact List.mem_append_left _ (lastD_mem _ _ hne)
    have := (h.spot_le hin).2.2.1
    omega
 ·intro k hk
  rw [hF k hk]
  by_cases e : k = lv
  ·subst e
   rw [QL_append]
   by_cases e1 : QL R1 k = []
   ·rw [if_pos ⟨rfl, e1⟩, e1]; rfl
   ·rw [if_neg (fun q => e1 q.2), h.hd k hk, hq]
    cases hx : QL R1 k with
    | nil => exact absurd hx e1
    | cons x xs => rfl
  ·rw [if_neg (fun q => e q.1), h.hd k hk, hqo k e]
 ·intro k hk
  rw [hL k hk]
  by_cases e : k = lv
  ·subst e
   rw [QL_append]
   by_cases e1 : QL R2 k = []
   ·rw [if_pos ⟨rfl, e1⟩, e1, List.append_nil]
   ·rw [if_neg (fun q => e1 q.2), h.tl k hk, hq]
    cases hx : QL R2 k with
    | nil => exact absurd hx e1
    | cons x xs => simp [List.getLastD_eq_getLast?]
  ·rw [if_neg (fun q => e q.1), h.tl k hk, hqo k e]
 ·intro k hk
  rw [hm k hk]
  by_cases e : k = lv
  ·subst e; rw [if_pos rfl, QL_append]
  ·rw [if_neg e, h.bit k hk, hqo k e]
 ·have := h.cnt
  simp at this ⊢
  omega
end
end Go.Proofs.YtjlbmmiomfpgiaaGreatDoor.Bq
namespace Go.Proofs.YtjlbmmiomfpgiaaGreatDoor.Bq
set_option maxRecDepth 100000
open Go.RowKit
theorem nodup_le : ∀ (n : Nat) (l : List Nat), l.Nodup → (∀ x ∈ l, x < n) → l.length ≤ n
 | 0, l, _, h => by
  cases l with
  | nil => simp
  | cons x xs => exact absurd (h x (by simp)) (by omega)
 | n + 1, l, hn, h => by
  have h1 : (l.erase n).length ≤ n := nodup_le n (l.erase n) (hn.erase n) (fun x hx => by
   have := h x (List.mem_of_mem_erase hx)
   have hne : x ≠ n := ((List.Nodup.mem_erase_iff hn).1 hx).1
   omega)
  by_cases hm : n ∈ l
  ·rw [List.length_erase_of_mem hm] at h1; omega
  ·rw [List.erase_of_not_mem hm] at h1; omega
def IsQ (w : World) (b g n : Nat) (R : List (Nat × Nat)) : Prop :=
 n ≤ 1024 ∧ ∃ (F L m : Nat → Nat) (c : Nat) (A B V : Nat → Nat) (T : Nat → Bool), Rep w b g n F L (fun i => (m i : Int)) c A B V T ∧ Inv n F L m c A B V T R
theorem IsQ.kept {w w' : World} {b g n : Nat} {R : List (Nat × Nat)} (h : IsQ w b g n R) (hb : w'.heap[b]? = w.heap[b]?) (hg : w'.heap[g]? = w.heap[g]?) : IsQ w' b g n R := by
 obtain ⟨hn, F, L, m, c, A, B, V, T, hr, hi⟩ := h
 exact ⟨hn, F, L, m, c, A, B, V, T, hr.kept hb hg, hi⟩
theorem IsQ.blocks {w : World} {b g n : Nat} {R : List (Nat × Nat)} (h : IsQ w b g n R) : b < w.heap.size ∧ g < w.heap.size ∧ b ≠ g := by
 obtain ⟨hn, F, L, m, c, A, B, V, T, hr, hi⟩ := h
 exact ⟨hr.lt_b, hr.lt_g, hr.bg⟩
theorem IsQ.len_le {w : World} {b g n : Nat} {R : List (Nat × Nat)} (h : IsQ w b g n R) : R.length ≤ n ∧ n ≤ 1024 := by
 obtain ⟨hn, F, L, m, c, A, B, V, T, hr, hi⟩ := h
 have := nodup_le n (R.map (·.1)) hi.ids (fun x hx => by obtain ⟨it, a, rfl⟩ := List.mem_map.1 hx; exact (hi.rng it a).1)
 rw [List.length_map] at this
 exact ⟨this, hn⟩
theorem upd_cast (m : Nat → Nat) (k x : Nat) : upd (fun i => (m i : Int)) k (x : Int) = fun i => ((upd m k x i : Nat) : Int) := by
 funext i
 unfold upd
 split <;> rfl
theorem tie_any (w : World) (b g n : Nat) (R : List (Nat × Nat)) (id lv : Nat) (h : IsQ w b g n R) (hi : id < n) (hlv : lv < 256) (hid : ∀ it ∈ R, it.1 ≠ id) :
  Calls Tryz.prog 230 #[.pointer (some ⟨b, 0, none⟩), .int .u8 lv, .int .i64 ((id + 1 : Nat) : Int)] w fun e w' => e = .returned (.tuple #[]) ∧ IsQ w' b g n (R ++ [(id, lv)]) ∧ Only b g w w' := by
 have hlen := h.len_le
 obtain ⟨hn, F, L, m, c, A, B, V, T, hr, hv⟩ := h
 have hc := hv.cnt
 by_cases h0 : L lv = 0
 ·have he := (hv.last_zero lv hlv).1 h0
  refine (tie_first hr lv (id + 1) hlv (by omega) hn (by omega) h0).mono ?_
  rintro e w' ⟨he', hrep, honly⟩
  refine ⟨he', ⟨hn, _, _, upd m (lv / 64) (m (lv / 64) ||| 2 ^ (lv % 64)), _, _, _, _, _, ?_, inv_push_first hv hi hlv hid he⟩, honly⟩
  rw [← upd_cast, ← orBit_nat _ _ (hv.mlt _ (by omega))]
  exact hrep
 ·have he : QL R lv ≠ [] := fun e => h0 ((hv.last_zero lv hlv).2 e)
  have hlm : L lv ∈ QL R lv := by rw [hv.tl lv hlv]; exact lastD_mem _ _ he
  obtain ⟨q1, _, _, q4⟩ := hv.spot_le hlm
  refine (tie_more hr lv (id + 1) (L lv) hlv (by omega) hn (by omega) rfl q4 q1 (fun e => push_notin hid lv (e ▸ hlm))).mono ?_
  rintro e w' ⟨he', hrep, honly⟩
  exact ⟨he', ⟨hn, _, _, m, _, _, _, _, _, hrep, inv_push_more hv hi hlv hid he⟩, honly⟩
theorem untie_any (w : World) (b g n : Nat) (R1 R2 : List (Nat × Nat)) (id lv : Nat) (h : IsQ w b g n (R1 ++ (id, lv) :: R2)) :
  Calls Tryz.prog 214 #[.pointer (some ⟨b, 0, none⟩), .int .i64 ((id + 1 : Nat) : Int)] w fun e w' => e = .returned (.tuple #[]) ∧ IsQ w' b g n (R1 ++ R2) ∧ Only b g w w' := by
 have hlen := h.len_le
 obtain ⟨hn, F, L, m, c', A, B, V, T, hr, hv⟩ := h
 obtain ⟨c, rfl⟩ : ∃ c, c' = c + 1 := ⟨c' - 1, by have := hv.cnt; simp at this; omega⟩
 have hc := hv.cnt
 have hcc : c ≤ 1024 := by omega
 have hlv : lv < 256 := (hv.rng (id, lv) (by simp)).2
 have hid : id < n := (hv.rng (id, lv) (by simp)).1
 have hV : V (id + 1) = lv := hv.lev (id, lv) (by simp)
 have hq : QL (R1 ++ (id, lv) :: R2) lv = QL R1 lv ++ (id + 1) :: QL R2 lv := by rw [QL_append, QL_cons, if_pos rfl]
 have hch := hv.ch lv hlv
 rw [hq] at hch
 obtain ⟨hA, hB, _⟩ := chain_mid A B (id + 1) (QL R2 lv) (QL R1 lv) 0 hch
 have hnd := QL_nodup hv.ids lv
 rw [hq, List.nodup_append, List.nodup_cons] at hnd
 have hin1 : ∀ s ∈ QL R1 lv, s ≤ n ∧ 1 ≤ s ∧ s ≠ id + 1 := fun s hs => by
  obtain ⟨a, _, _, d⟩ := hv.spot_le (show s ∈ QL (R1 ++ (id, lv) :: R2) lv by rw [hq]; simp [hs])
  exact ⟨a, d, fun e => hnd.2.2 s hs (id + 1) (by simp) e⟩
 have hin2 : ∀ s ∈ QL R2 lv, s ≤ n ∧ 1 ≤ s ∧ s ≠ id + 1 := fun s hs => by
  obtain ⟨a, _, _, d⟩ := hv.spot_le (show s ∈ QL (R1 ++ (id, lv) :: R2) lv by rw [hq]; simp [hs])
  exact ⟨a, d, fun e => hnd.2.1.1 (e ▸ hs)⟩
 have hFl : F lv ≠ 0 := fun e => by
  have := (hv.first_zero lv hlv).1 e
  rw [hq] at this
  simp at this
 by_cases e1 : QL R1 lv = []
 ·by_cases e2 : QL R2 lv = []
  ·-- it stands alone
   rw [e1] at hA
   rw [e2] at hB
   refine (untie_only hr (id + 1) lv (by omega) hlv hn hcc hA hB hV).mono ?_
   rintro e w' ⟨he', hrep, honly⟩
   refine ⟨he', ⟨hn, _, _, upd m (lv / 64) (m (lv / 64) &&& (18446744073709551615 - 2 ^ (lv % 64))), _, _, _, _, _, ?_, inv_cut hv (upd F lv 0) (upd L lv 0) _ (upd A (id + 1) 0) (upd B (id + 1) 0) ?_ ?_ ?_ ?_ ?_ ?_⟩, honly⟩
   ·rw [← upd_cast, ← andBit_nat _ _ (hv.mlt _ (by omega))]; exact hrep
   ·intro k _; rw [e1, e2]; unfold upd; by_cases q : k = lv <;> simp [q]
   ·intro k _; rw [e1, e2]; unfold upd; by_cases q : k = lv <;> simp [q]
   ·intro s hs; rw [e2, upd_other _ _ _ _ hs]; simp
   ·intro s hs; rw [e1, upd_other _ _ _ _ hs]; simp
   ·intro k hk
    by_cases q : k = lv
    ·subst q; rw [if_pos rfl, upd_same, and_bit _ _ _ (by omega) (by omega), e1, e2]; simp
    ·rw [if_neg q]
     by_cases q2 : k / 64 = lv / 64
     ·rw [q2, upd_same, and_bit _ _ _ (by omega) (by omega)]
      have : ¬ lv % 64 = k % 64 := by omega
      simp [this]
     ·rw [upd_other _ _ _ _ q2]
   ·intro i hi'
    by_cases q : i = lv / 64
    ·subst q; rw [upd_same]; exact and_lt _ _ (hv.mlt _ hi')
    ·rw [upd_other _ _ _ _ q]; exact hv.mlt i hi'
  ·-- the first one
   rw [e1] at hA
   obtain ⟨y1, y2, y3⟩ := hin2 _ (headD_mem _ e2)
   refine (untie_head hr (id + 1) lv (by omega) hlv hn hcc ((QL R2 lv).headD 0) hA hB hV y1 y2 y3).mono ?_
   rintro e w' ⟨he', hrep, honly⟩
   refine ⟨he', ⟨hn, _, _, m, _, _, _, _, _, hrep, inv_cut hv _ _ _ _ _ ?_ ?_ ?_ ?_ ?_ hv.mlt⟩, honly⟩
   ·intro k _; unfold upd; by_cases q : k = lv <;> simp [q, e1]
   ·intro k _; rw [if_neg (fun q => e2 q.2)]
   ·intro s hs
    rw [upd_other _ _ _ _ hs, e1]
    unfold upd
    by_cases q : s = (QL R2 lv).headD 0
    ·rw [if_pos q, if_pos ⟨e2, q⟩]; rfl
    ·rw [if_neg q, if_neg (fun z => q z.2)]
   ·intro s hs; rw [upd_other _ _ _ _ hs, if_neg (fun z => z.1 e1)]
   ·intro k hk
    by_cases q : k = lv
    ·subst q
     rw [if_pos rfl, hv.bit k hk, hq]
     cases hx : QL R2 k with
     | nil => exact absurd hx e2
     | cons x xs => simp [e1]
    ·rw [if_neg q]
 ·by_cases e2 : QL R2 lv = []
  ·-- the last one
   rw [e2] at hB
   obtain ⟨x1, x2, x3⟩ := hin1 _ (lastD_mem _ 0 e1)
   refine (untie_last hr (id + 1) lv (by omega) hlv hn hcc ((QL R1 lv).getLastD 0) (F lv) hA hB hV rfl (by omega) x1 x2 x3).mono ?_
   rintro e w' ⟨he', hrep, honly⟩
   refine ⟨he', ⟨hn, _, _, m, _, _, _, _, _, hrep, inv_cut hv _ _ _ _ _ ?_ ?_ ?_ ?_ ?_ hv.mlt⟩, honly⟩
   ·intro k _; rw [if_neg (fun q => e1 q.2)]
   ·intro k _; unfold upd; by_cases q : k = lv <;> simp [q, e2]
   ·intro s hs; rw [upd_other _ _ _ _ hs, if_neg (fun z => z.1 e2)]
   ·intro s hs
    rw [upd_other _ _ _ _ hs, e2]
    unfold upd
    by_cases q : s = (QL R1 lv).getLastD 0
    ·rw [if_pos q, if_pos ⟨e1, q⟩]; rfl
    ·rw [if_neg q, if_neg (fun z => q z.2)]
   ·intro k hk
    by_cases q : k = lv
    ·subst q
     rw [if_pos rfl, hv.bit k hk, hq]
     cases hx : QL R1 k with
     | nil => exact absurd hx e1
     | cons x xs => simp
    ·rw [if_neg q]
  ·-- one between two others
   obtain ⟨x1, x2, x3⟩ := hin1 _ (lastD_mem _ 0 e1)
   obtain ⟨y1, y2, y3⟩ := hin2 _ (headD_mem _ e2)
   refine (untie_mid hr (id + 1) lv (by omega) hlv hn hcc ((QL R1 lv).getLastD 0) ((QL R2 lv).headD 0) (F lv) hA hB hV rfl (by omega) x1 x2 x3 y1 y2 y3).mono ?_
   rintro e w' ⟨he', hrep, honly⟩
   refine ⟨he', ⟨hn, _, _, m, _, _, _, _, _, hrep, inv_cut hv _ _ _ _ _ ?_ ?_ ?_ ?_ ?_ hv.mlt⟩, honly⟩
   ·intro k _; rw [if_neg (fun q => e1 q.2)]
   ·intro k _; rw [if_neg (fun q => e2 q.2)]
   ·intro s hs
    rw [upd_other _ _ _ _ hs]
    unfold upd
    by_cases q : s = (QL R2 lv).headD 0
    ·rw [if_pos q, if_pos ⟨e2, q⟩]
    ·rw [if_neg q, if_neg (fun z => q z.2)]
   ·intro s hs
    rw [upd_other _ _ _ _ hs]
    unfold upd
    by_cases q : s = (QL R1 lv).getLastD 0
    ·rw [if_pos q, if_pos ⟨e1, q⟩]
    ·rw [if_neg q, if_neg (fun z => q z.2)]
   ·intro k hk
    by_cases q : k = lv
    ·subst q
     rw [if_pos rfl, hv.bit k hk, hq]
     cases hx : QL R1 k with
     | nil => exact absurd hx e1
     | cons x xs => simp
    ·rw [if_neg q]
end Go.Proofs.YtjlbmmiomfpgiaaGreatDoor.Bq
namespace Go.Proofs.YtjlbmmiomfpgiaaGreatDoor.Bq
set_option maxRecDepth 100000
open Go.RowKit Go.Lib
def linkZero : Value := .agg #[.int .i64 0, .int .i64 0, .int .u8 0, .bool false]
def linkCells (n : Nat) : Array Value := madeCells linkZero.cells ((n + 1) * 4)
def zeroCells : Array Value := Array.replicate 512 (.int .i64 0) ++ (Array.replicate 4 (.int .u64 0) ++ #[.slice none 0 0, .int .i64 0])
def queueCells (g n : Nat) : Array Value := zeroCells.setIfInBounds 516 (.slice (some ⟨g, 0, none⟩) (n + 1) (n + 1))
theorem zero_size : zeroCells.size = 518 := by unfold zeroCells; simp
theorem cell_new (w : World) (c : Array Value) (t : TypeId) (i : Nat) : (w.alloc (.cells c t)).cell? ⟨w.heap.size, i, none⟩ = c[i]? := by
 unfold World.cell?
 simp only [(MapKept.heap_alloc w (.cells c t)).1]
 rfl
theorem frozen_new (w : World) (c : Array Value) (t : TypeId) (i : Nat) : (w.alloc (.cells c t)).frozen? ⟨w.heap.size, i, none⟩ = false := by
 unfold World.frozen?
 simp only [(MapKept.heap_alloc w (.cells c t)).1]
 simp
theorem link_at (n k : Nat) (h : k < (n + 1) * 4) : (linkCells n)[k]? = some ((#[Value.int .i64 0, .int .i64 0, .int .u8 0, .bool false] : Array Value)[k % 4]!) := by
 unfold linkCells madeCells linkZero
 simp [Value.cells, h]
theorem queue_lo (g n i : Nat) (h : i < 512) : (queueCells g n)[i]? = some (.int .i64 0) := by
 unfold queueCells
 rw [Array.getElem?_setIfInBounds_ne (by omega)]
 unfold zeroCells
 rw [Array.getElem?_append_left (by simpa using h)]
 simp [h]
theorem queue_mid (g n i : Nat) (h : i < 4) : (queueCells g n)[512 + i]? = some (.int .u64 0) := by
 unfold queueCells
 rw [Array.getElem?_setIfInBounds_ne (by omega)]
 unfold zeroCells
 rw [Array.getElem?_append_right (by simp)]
 simp only [Array.size_replicate, Nat.add_sub_cancel_left]
 rw [Array.getElem?_append_left (by simpa using h)]
 simp [h]
theorem queue_hi (g n : Nat) : (queueCells g n)[516]? = some (.slice (some ⟨g, 0, none⟩) (n + 1) (n + 1)) ∧ (queueCells g n)[517]? = some (.int .i64 0) := by
 unfold queueCells
 constructor
 ·rw [Array.getElem?_setIfInBounds_self_of_lt (by rw [zero_size]; omega)]
 ·rw [Array.getElem?_setIfInBounds_ne (by omega)]
  unfold zeroCells
  rw [Array.getElem?_append_right (by simp)]
  simp only [Array.size_replicate]
  rw [Array.getElem?_append_right (by simp)]
  simp
theorem infoLink : (Tryz.prog.info? 273).map (fun i => (i.zero, i.size, i.bytes)) = some (some linkZero, 4, 24) := by kernel_rfl
theorem zeroQ (w : World) : (zeroValue 247).run Tryz.prog w = .ok (.agg zeroCells) w := by kernel_rfl
theorem new_rep (w : World) (n : Nat) :
  Rep ((w.alloc (.cells (linkCells n) 273)).alloc (.cells (queueCells w.heap.size n) 247)) (w.heap.size + 1) w.heap.size n (fun _ => 0) (fun _ => 0) (fun _ => ((0 : Nat) : Int)) 0 (fun _ => 0) (fun _ => 0) (fun _ => 0) (fun _ => false) := by
 have hb : ∀ i, ((w.alloc (.cells (linkCells n) 273)).alloc (.cells (queueCells w.heap.size n) 247)).cell? ⟨w.heap.size + 1, i, none⟩ = (queueCells w.heap.size n)[i]? := by
  intro i
  have e : w.heap.size + 1 = (w.alloc (.cells (linkCells n) 273)).heap.size := by simp
  rw [e]; exact cell_new _ _ _ _
 have hg : ∀ i, ((w.alloc (.cells (linkCells n) 273)).alloc (.cells (queueCells w.heap.size n) 247)).cell? ⟨w.heap.size, i, none⟩ = (linkCells n)[i]? := by
  intro i
  rw [← cell_new w (linkCells n) 273 i]
  simp only [World.cell?]
  rw [Below.heap_alloc _ _ _ (by simp)]
 have fb : ∀ i, ((w.alloc (.cells (linkCells n) 273)).alloc (.cells (queueCells w.heap.size n) 247)).frozen? ⟨w.heap.size + 1, i, none⟩ = false := by
  intro i
  have e : w.heap.size + 1 = (w.alloc (.cells (linkCells n) 273)).heap.size := by simp
  rw [e]; exact frozen_new _ _ _ _
 have fg : ∀ i, ((w.alloc (.cells (linkCells n) 273)).alloc (.cells (queueCells w.heap.size n) 247)).frozen? ⟨w.heap.size, i, none⟩ = false := by
  intro i
  rw [← frozen_new w (linkCells n) 273 i]
  simp only [World.frozen?]
  rw [Below.heap_alloc _ _ _ (by simp)]
 refine ⟨by omega, fun i hi => ?_, fun i hi => ?_, fun i hi => ?_, ?_, ?_, fun s hs => ?_, fun s hs => ?_, fun s hs => ?_, fun s hs => ?_, fb, fg⟩
 ·rw [hb, queue_lo _ _ _ (by omega)]; rfl
 ·rw [hb, queue_lo _ _ _ (by omega)]; rfl
 ·rw [hb, queue_mid _ _ _ hi]; rfl
 ·exact ⟨n + 1, by rw [hb]; exact (queue_hi _ _).1⟩
 ·rw [hb]; exact (queue_hi _ _).2
 ·rw [hg, link_at n _ (by omega), show s * 4 % 4 = 0 by omega]; rfl
 ·rw [hg, link_at n _ (by omega), show (s * 4 + 1) % 4 = 1 by omega]; rfl
 ·rw [hg, link_at n _ (by omega), show (s * 4 + 2) % 4 = 2 by omega]; rfl
 ·rw [hg, link_at n _ (by omega), show (s * 4 + 3) % 4 = 3 by omega]; rfl
theorem new_inv (n : Nat) : Inv n (fun _ => 0) (fun _ => 0) (fun _ => 0) 0 (fun _ => 0) (fun _ => 0) (fun _ => 0) (fun _ => false) [] where
 ids := by simp
 rng := by simp
 there := by simp
 lev := by simp
 nolev := by simp
 ch := fun _ _ => trivial
 hd := fun _ _ => rfl
 tl := fun _ _ => rfl
 bit := fun _ _ => by simp [QL]
 mlt := fun _ _ => by decide
 cnt := rfl
set_option maxHeartbeats 1000000 in
set_option maxRecDepth 100000 in
theorem new_ok (n : Nat) (w : World) (h1 : 1 ≤ n) (h2 : n ≤ 1024) :
  Calls Tryz.prog 114 #[.int .i64 n] w fun e w' => e = .returned (.pointer (some ⟨w.heap.size + 1, 0, none⟩)) ∧ IsQ w' (w.heap.size + 1) w.heap.size n [] ∧ Below w.heap.size w w' := by
 obtain ⟨i0, hi, hz0, hz1, hz2⟩ := info_parts infoLink
 have hmk : ∀ w, (Instr.makeSlice 243 (.int .i64 ((n : Int) + 1)) (.int .i64 ((n : Int) + 1))).run Tryz.prog w = .ok (.slice (some ⟨w.heap.size, 0, none⟩) (n + 1) (n + 1)) (w.alloc (.cells (linkCells n) 273)) := by
  intro w
  have := run_make w 243 273 i0 linkZero Tryz.underlying243 hi hz0 .i64 .i64 ((n : Int) + 1) ((n : Int) + 1) (by omega) (by omega) (by rw [hz2]; omega) (by omega)
  rw [hz1, show ((n : Int) + 1).toNat = n + 1 by omega] at this
  exact this
 have hzq := zeroQ
 have hzs := zero_size
 have hr := new_rep w n
 have HR : Hid _ := hr
 clear hr hi hz0 hz1 hz2
 go_enter Tryz.func114, Tryz.ntmps114
 go_wp2
 go_ret
 refine ⟨rfl, ⟨h2, _, _, fun _ => 0, _, _, _, _, _, HR.out, new_inv n⟩, ?_⟩
 exact ((Below.refl _ _).alloc (Nat.le_refl _) _).alloc (by simp) _
end Go.Proofs.YtjlbmmiomfpgiaaGreatDoor.Bq
namespace Go.Proofs.YtjlbmmiomfpgiaaGreatDoor.Bq
set_option maxRecDepth 100000
open Go.RowKit Go.Lib
theorem bl_nat (x : Nat) (h : x < 18446744073709551616) (h0 : x ≠ 0) : 2 ^ (Lib.bitLen x - 1) ≤ x ∧ x < 2 ^ Lib.bitLen x ∧ 1 ≤ Lib.bitLen x := by
 exact bl_log 64 x h (by omega) h0
theorem bit_set (x k : Nat) (h : x < 18446744073709551616) (hb : x.testBit k = true) : x ≠ 0 ∧ k < Lib.bitLen x := by
 have h0 : x ≠ 0 := by rintro rfl; simp at hb
 refine ⟨h0, ?_⟩
 apply Classical.byContradiction
 intro hn
 have h1 := (bl_nat x h h0).2.1
 have : x < 2 ^ k := Nat.lt_of_lt_of_le h1 (Nat.pow_le_pow_right (by decide) (by omega))
 rw [Nat.testBit_lt_two_pow this] at hb
 cases hb
theorem bit_top (x : Nat) (h : x < 18446744073709551616) (h0 : x ≠ 0) : x.testBit (Lib.bitLen x - 1) = true := by
 obtain ⟨a, b, c⟩ := bl_nat x h h0
 rw [Nat.testBit_eq_decide_div_mod_eq]
 have e2 : Lib.bitLen x = Lib.bitLen x - 1 + 1 := by omega
 rw [e2, Nat.pow_succ] at b
 generalize Lib.bitLen x - 1 = q at *
 have hq : 0 < 2 ^ q := Nat.two_pow_pos q
 have d : x / 2 ^ q = 1 := by apply Nat.div_eq_of_lt_le <;> omega
 rw [d]
 rfl
theorem w64_nat (x : Nat) (h : x < 18446744073709551616) : W64 (x : Int) := ⟨by omega, by omega⟩
theorem hi_bits (m : Nat → Nat) (mlt : ∀ i, i < 4 → m i < 18446744073709551616) :
  (∀ k, k < 256 → (m (k / 64)).testBit (k % 64) = true → (k : Int) ≤ hiBit (m 0) (m 1) (m 2) (m 3)) ∧
  (∀ k : Nat, k < 256 → hiBit (m 0) (m 1) (m 2) (m 3) = (k : Int) → (m (k / 64)).testBit (k % 64) = true) := by
 have b0 := w64_nat _ (mlt 0 (by omega)); have b1 := w64_nat _ (mlt 1 (by omega)); have b2 := w64_nat _ (mlt 2 (by omega)); have b3 := w64_nat _ (mlt 3 (by omega))
 have hge := hi_ge (m 0) (m 1) (m 2) (m 3) b0 b1 b2 b3
 simp only [Int.toNat_natCast] at hge
 constructor
 ·intro k hk hb
  have hj : k / 64 = 0 ∨ k / 64 = 1 ∨ k / 64 = 2 ∨ k / 64 = 3 := by omega
  obtain ⟨n0, nl⟩ := bit_set _ _ (mlt (k / 64) (by omega)) hb
  rcases hj with e | e | e | e <;> rw [e] at n0 nl
  ·have := hge.1 (by omega); omega
  ·have := hge.2.1 (by omega); omega
  ·have := hge.2.2.1 (by omega); omega
  ·have := hge.2.2.2 (by omega); omega
 ·intro k hk hH
  have hat := hi_at (m 0) (m 1) (m 2) (m 3) b0 b1 b2 b3 ((k % 64 : Nat) : Int) (by omega) (by omega)
  simp only [Int.toNat_natCast] at hat
  have hj : k / 64 = 0 ∨ k / 64 = 1 ∨ k / 64 = 2 ∨ k / 64 = 3 := by omega
  rcases hj with e | e | e | e <;> rw [e]
  ·obtain ⟨n0, nl⟩ := hat.1 (by omega)
   rw [show k % 64 = Lib.bitLen (m 0) - 1 by omega]; exact bit_top _ (mlt 0 (by omega)) (by omega)
  ·obtain ⟨n0, nl⟩ := hat.2.1 (by omega)
   rw [show k % 64 = Lib.bitLen (m 1) - 1 by omega]; exact bit_top _ (mlt 1 (by omega)) (by omega)
  ·obtain ⟨n0, nl⟩ := hat.2.2.1 (by omega)
   rw [show k % 64 = Lib.bitLen (m 2) - 1 by omega]; exact bit_top _ (mlt 2 (by omega)) (by omega)
  ·obtain ⟨n0, nl⟩ := hat.2.2.2 (by omega)
   rw [show k % 64 = Lib.bitLen (m 3) - 1 by omega]; exact bit_top _ (mlt 3 (by omega)) (by omega)
def Best (R : List (Nat × Nat)) (lv : Nat) : Prop := lv < 256 ∧ QL R lv ≠ [] ∧ ∀ k, k < 256 → lv < k → QL R k = []
theorem hi_best {n : Nat} {F L m : Nat → Nat} {c : Nat} {A B V : Nat → Nat} {T : Nat → Bool} {R : List (Nat × Nat)} (h : Inv n F L m c A B V T R) {lv : Nat} (hb : Best R lv) : hiBit (m 0) (m 1) (m 2) (m 3) = (lv : Int) := by
 obtain ⟨h1, h2, h3⟩ := hb
 obtain ⟨g1, g2⟩ := hi_bits m h.mlt
 have hbd := hi_bd (m 0) (m 1) (m 2) (m 3) (w64_nat _ (h.mlt 0 (by omega))) (w64_nat _ (h.mlt 1 (by omega))) (w64_nat _ (h.mlt 2 (by omega))) (w64_nat _ (h.mlt 3 (by omega)))
 have hle := g1 lv h1 (by rw [h.bit lv h1]; cases hq : QL R lv with | nil => exact absurd hq h2 | cons x xs => rfl)
 apply Classical.byContradiction
 intro hne
 obtain ⟨k, hk⟩ : ∃ k : Nat, hiBit (m 0) (m 1) (m 2) (m 3) = (k : Int) := ⟨(hiBit (m 0) (m 1) (m 2) (m 3)).toNat, by omega⟩
 have hb := g2 k (by omega) hk
 rw [h.bit k (by omega), h3 k (by omega) (by omega)] at hb
 simp at hb
theorem hi_nobody {n : Nat} {F L m : Nat → Nat} {c : Nat} {A B V : Nat → Nat} {T : Nat → Bool} (h : Inv n F L m c A B V T []) : hiBit (m 0) (m 1) (m 2) (m 3) = -1 := by
 obtain ⟨g1, g2⟩ := hi_bits m h.mlt
 have hbd := hi_bd (m 0) (m 1) (m 2) (m 3) (w64_nat _ (h.mlt 0 (by omega))) (w64_nat _ (h.mlt 1 (by omega))) (w64_nat _ (h.mlt 2 (by omega))) (w64_nat _ (h.mlt 3 (by omega)))
 apply Classical.byContradiction
 intro hne
 obtain ⟨k, hk⟩ : ∃ k : Nat, hiBit (m 0) (m 1) (m 2) (m 3) = (k : Int) := ⟨(hiBit (m 0) (m 1) (m 2) (m 3)).toNat, by omega⟩
 have hb := g2 k (by omega) hk
 rw [h.bit k (by omega)] at hb
 simp [QL] at hb
section
variable {w : World} {b g n : Nat} {F L : Nat → Nat} {M : Nat → Int} {c : Nat} {A B V : Nat → Nat} {T : Nat → Bool}
theorem mask_rep (h : Rep w b g n F L M c A B V T) :
  Calls Tryz.prog 227 #[.pointer (some ⟨b, 0, none⟩)] w fun e w' => e = .returned (.agg #[.int .u64 (M 0), .int .u64 (M 1), .int .u64 (M 2), .int .u64 (M 3)]) ∧ ∃ d : Array Value, w' = w.alloc (.cells d 245) := by
 have e0 : w.cell? ⟨b, 512, none⟩ = some (.int .u64 (M 0)) := h.msk 0 (by omega)
 have e1 : w.cell? ⟨b, 513, none⟩ = some (.int .u64 (M 1)) := h.msk 1 (by omega)
 have e2 : w.cell? ⟨b, 514, none⟩ = some (.int .u64 (M 2)) := h.msk 2 (by omega)
 have e3 : w.cell? ⟨b, 515, none⟩ = some (.int .u64 (M 3)) := h.msk 3 (by omega)
 have zb := h.lt_b
 have yb : ¬ b = w.heap.size := by omega
 clear h
 go_enter Tryz.func227, Tryz.ntmps227
 go_wp2
 simp [bodyPost, results, Tryz.results227, go_sem]
 exact ⟨_, rfl⟩
theorem len_rep (h : Rep w b g n F L M c A B V T) :
  Calls Tryz.prog 178 #[.pointer (some ⟨b, 0, none⟩)] w fun e w' => e = .returned (.int .i64 c) ∧ w' = w := by
 have e0 := h.cn
 clear h
 go_enter Tryz.func178, Tryz.ntmps178
 go_wp2
 go_ret
 exact ⟨rfl, rfl⟩
theorem may_yes (h : Rep w b g n F L M c A B V T) (id : Nat) (hn : n ≤ 1024) (hid : id < n) :
  Calls Tryz.prog 212 #[.pointer (some ⟨b, 0, none⟩), .int .i64 id] w fun e w' => e = .returned (.bool true) ∧ w' = w := by
 obtain ⟨cp, e0⟩ := h.sl
 clear h
 go_enter Tryz.func212, Tryz.ntmps212
 go_wp2
 go_ret
 exact ⟨by simp, rfl⟩
end
end Go.Proofs.YtjlbmmiomfpgiaaGreatDoor.Bq
namespace Go.Proofs.YtjlbmmiomfpgiaaGreatDoor.Bq
set_option maxRecDepth 100000
open Go.RowKit Go.Lib
theorem veil {p : Prop} (h : p) : Hid p := h
theorem IsQ.below {w w' : World} {b g n : Nat} {R : List (Nat × Nat)} (h : IsQ w b g n R) (hw : Below w.heap.size w w') : IsQ w' b g n R :=
 h.kept (hw.block b h.blocks.1) (hw.block g h.blocks.2.1)
set_option maxHeartbeats 1000000 in
theorem push_ok (w : World) (b g n : Nat) (R : List (Nat × Nat)) (id lv : Nat) (h : IsQ w b g n R) (hi : id < n) (hlv : lv < 256) (hid : ∀ it ∈ R, it.1 ≠ id) :
  Calls Tryz.prog 216 #[.pointer (some ⟨b, 0, none⟩), .int .u8 lv, .int .i64 id] w fun e w' => e = .returned (.int .i64 0) ∧ IsQ w' b g n (R ++ [(id, lv)]) ∧ Only b g w w' := by
 have HT := veil (tie_any w b g n R id lv h hi hlv hid)
 obtain ⟨hn, F, L, m, c, A, B, V, T, hr, hv⟩ := h
 have HM := veil (may_yes hr id hn hi)
 have ht : T (id + 1) = false := by
  cases hq : T (id + 1) with
  | false => rfl
  | true =>
   obtain ⟨it, a, e⟩ := (hv.there (id + 1) (by omega)).1 hq
   exact absurd (by omega) (hid it a)
 obtain ⟨cp, e0⟩ := hr.sl
 have e1 := hr.lt (id + 1) (by omega)
 rw [ht] at e1
 clear hr hv ht
 go_enter Tryz.func216, Tryz.ntmps216
 go_wp2_with (first
  | (go_at_call 212; refine (HM.out).mono ?_; rintro e w' ⟨rfl, hw⟩; subst hw)
  | (go_at_call 230; refine (HT.out).mono ?_; rintro e w' ⟨rfl, hq, ho⟩; have HQ := veil (hq); have HO := veil (ho); clear hq ho))
 go_ret
 exact ⟨rfl, HQ.out, HO.out⟩
set_option maxHeartbeats 1000000 in
theorem top_some (w : World) (b g n : Nat) (R : List (Nat × Nat)) (id lv : Nat) (rest : List Nat) (h : IsQ w b g n R) (hb : Best R lv) (hq : QL R lv = (id + 1) :: rest) :
  Calls Tryz.prog 210 #[.pointer (some ⟨b, 0, none⟩)] w fun e w' => e = .returned (.tuple #[.int .u8 lv, .int .i64 id, .bool true]) ∧ Below w.heap.size w w' := by
 obtain ⟨hn, F, L, m, c, A, B, V, T, hr, hv⟩ := h
 have hhi := hi_best hv hb
 have hlv := hb.1
 have HM := veil (mask_rep hr)
 have w0 := w64_nat _ (hv.mlt 0 (by omega)); have w1 := w64_nat _ (hv.mlt 1 (by omega)); have w2 := w64_nat _ (hv.mlt 2 (by omega)); have w3 := w64_nat _ (hv.mlt 3 (by omega))
 have hH : ∀ w, Calls Tryz.prog 226 #[.agg #[.int .u64 (m 0), .int .u64 (m 1), .int .u64 (m 2), .int .u64 (m 3)]] w fun e w' => e = .returned (.int .i64 lv) ∧ ∃ c : Array Value, w' = w.alloc (.cells c 245) := by
  intro w
  have := highest_any (m 0) (m 1) (m 2) (m 3) w w0 w1 w2 w3
  rw [hhi] at this
  exact this
 have HH := veil (hH)
 have e0 := hr.fst lv hlv
 rw [hv.hd lv hlv, hq] at e0
 have e0' : w.cell? ⟨b, lv, none⟩ = some (.int .i64 ((id : Int) + 1)) := e0
 have hidn : id + 1 ≤ n := (hv.spot_le (show id + 1 ∈ QL R lv by rw [hq]; simp)).1
 have zb := hr.lt_b
 have yb : ¬ b = w.heap.size := by omega
 have yb1 : ¬ b = w.heap.size + 1 := by omega
 clear hr hv hhi hH e0 w0 w1 w2 w3 hb hq
 go_enter Tryz.func210, Tryz.ntmps210
 go_wp2_with (first
  | (go_at_call 227; refine (HM.out).mono ?_; rintro e w' ⟨rfl, d, hw⟩; subst hw)
  | (go_at_call 226; refine (HH.out _).mono ?_; rintro e w' ⟨rfl, d2, hw⟩; subst hw))
 go_quiet (fail)
 go_wp2
 go_ret3
 exact ⟨rfl, below_drewN (((Below.refl _ _).alloc (Nat.le_refl _) _).alloc (by simp) _) _⟩
end Go.Proofs.YtjlbmmiomfpgiaaGreatDoor.Bq
namespace Go.Proofs.YtjlbmmiomfpgiaaGreatDoor.Bq
set_option maxRecDepth 100000
open Go.RowKit Go.Lib
theorem IsQ.rng {w : World} {b g n : Nat} {R : List (Nat × Nat)} (h : IsQ w b g n R) : ∀ it ∈ R, it.1 < n ∧ it.2 < 256 := by
 obtain ⟨hn, F, L, m, c, A, B, V, T, hr, hv⟩ := h
 exact hv.rng
theorem mask_none (w : World) (b g n : Nat) (h : IsQ w b g n []) :
  ∃ m0 m1 m2 m3 : Int, (Calls Tryz.prog 227 #[.pointer (some ⟨b, 0, none⟩)] w fun e w' => e = .returned (.agg #[.int .u64 m0, .int .u64 m1, .int .u64 m2, .int .u64 m3]) ∧ ∃ d : Array Value, w' = w.alloc (.cells d 245)) ∧
   ∀ w, Calls Tryz.prog 226 #[.agg #[.int .u64 m0, .int .u64 m1, .int .u64 m2, .int .u64 m3]] w fun e w' => e = .returned (.int .i64 (-1)) ∧ ∃ d : Array Value, w' = w.alloc (.cells d 245) := by
 obtain ⟨hn, F, L, m, c, A, B, V, T, hr, hv⟩ := h
 have hhi := hi_nobody hv
 refine ⟨m 0, m 1, m 2, m 3, mask_rep hr, fun w => ?_⟩
 have := highest_any (m 0) (m 1) (m 2) (m 3) w (w64_nat _ (hv.mlt 0 (by omega))) (w64_nat _ (hv.mlt 1 (by omega))) (w64_nat _ (hv.mlt 2 (by omega))) (w64_nat _ (hv.mlt 3 (by omega)))
 rw [hhi] at this
 exact this
theorem len_is (w : World) (b g n : Nat) (R : List (Nat × Nat)) (h : IsQ w b g n R) :
  Calls Tryz.prog 178 #[.pointer (some ⟨b, 0, none⟩)] w fun e w' => e = .returned (.int .i64 (R.length : Int)) ∧ w' = w := by
 obtain ⟨hn, F, L, m, c, A, B, V, T, hr, hv⟩ := h
 rw [← hv.cnt]
 exact len_rep hr
end Go.Proofs.YtjlbmmiomfpgiaaGreatDoor.Bq
namespace Go.Proofs.YtjlbmmiomfpgiaaGreatDoor.Bq
set_option maxRecDepth 100000
open Go.RowKit Go.Lib
end Go.Proofs.YtjlbmmiomfpgiaaGreatDoor.Bq
namespace Go.Proofs.YtjlbmmiomfpgiaaGreatDoor.Bq
set_option maxRecDepth 100000
open Go.RowKit
section
variable {w : World} {b g n : Nat} {R R1 R2 : List (Nat × Nat)} {id lv : Nat}
theorem IsQ.sl (h : IsQ w b g n R) : ∃ cp, w.cell? ⟨b, 516, none⟩ = some (.slice (some ⟨g, 0, none⟩) (n + 1) cp) := by
 obtain ⟨hn, F, L, m, c, A, B, V, T, hr, hv⟩ := h
 exact hr.sl
theorem may_no (h : IsQ w b g n R) (id : Int) (hi : id < 0 ∨ (n : Int) ≤ id) :
  Calls Tryz.prog 212 #[.pointer (some ⟨b, 0, none⟩), .int .i64 id] w fun e w' => e = .returned (.bool false) ∧ w' = w := by
 obtain ⟨cp, e0⟩ := h.sl
 have hn := h.len_le.2
 clear h
 by_cases h0 : id < 0
 ·go_enter Tryz.func212, Tryz.ntmps212
  go_wp2
  go_ret
  exact ⟨rfl, rfl⟩
 ·have h1 : ¬ id < (n : Int) := by omega
  have h2 : (n : Int) ≤ id := by omega
  clear hi
  go_enter Tryz.func212, Tryz.ntmps212
  go_wp2
  go_ret
  exact ⟨by simp, rfl⟩
theorem may_ok (h : IsQ w b g n R) (hi : id < n) :
  Calls Tryz.prog 212 #[.pointer (some ⟨b, 0, none⟩), .int .i64 id] w fun e w' => e = .returned (.bool true) ∧ w' = w := by
 obtain ⟨hn, F, L, m, c, A, B, V, T, hr, hv⟩ := h
 exact may_yes hr id hn hi
theorem remove_range (h : IsQ w b g n R) (id : Int) (hi : id < 0 ∨ (n : Int) ≤ id) :
  Calls Tryz.prog 193 #[.pointer (some ⟨b, 0, none⟩), .int .i64 id] w fun e w' => e = .returned (.int .i64 2) ∧ w' = w := by
 have HM := veil (may_no h id hi)
 clear h hi
 go_enter Tryz.func193, Tryz.ntmps193
 go_wp2_with (go_at_call 212; refine (HM.out).mono ?_; rintro e w' ⟨rfl, hw⟩; subst hw)
 go_ret
 exact ⟨rfl, rfl⟩
theorem IsQ.link (h : IsQ w b g n R) (hi : id < n) : ∃ (lv : Nat) (t : Bool), w.cell? ⟨g, (id + 1) * 4 + 2, none⟩ = some (.int .u8 lv) ∧ w.cell? ⟨g, (id + 1) * 4 + 3, none⟩ = some (.bool t) ∧ (t = true → (id, lv) ∈ R) ∧ (t = false → lv = 0 ∧ ∀ it ∈ R, it.1 ≠ id) ∧
  ∃ x y : Nat, w.cell? ⟨g, (id + 1) * 4, none⟩ = some (.int .i64 x) ∧ w.cell? ⟨g, (id + 1) * 4 + 1, none⟩ = some (.int .i64 y) := by
 obtain ⟨hn, F, L, m, c, A, B, V, T, hr, hv⟩ := h
 refine ⟨V (id + 1), T (id + 1), hr.lv (id + 1) (by omega), hr.lt (id + 1) (by omega), fun ht => ?_, fun ht => ?_, A (id + 1), B (id + 1), hr.la (id + 1) (by omega), hr.lb (id + 1) (by omega)⟩
 ·obtain ⟨it, a, e⟩ := (hv.there (id + 1) (by omega)).1 ht
  have := hv.lev it a
  have e2 : it.1 = id := by omega
  rw [e2] at this
  rw [this, ← e2]
  exact a
 ·refine ⟨hv.nolev (id + 1) (by omega) ht, fun it hit e => ?_⟩
  have := (hv.there (id + 1) (by omega)).2 ⟨it, hit, by omega⟩
  rw [ht] at this
  cases this
theorem push_known (h : IsQ w b g n (R1 ++ (id, lv) :: R2)) (l0 : Nat) :
  Calls Tryz.prog 216 #[.pointer (some ⟨b, 0, none⟩), .int .u8 l0, .int .i64 id] w fun e w' => e = .returned (.int .i64 5) ∧ w' = w := by
 have hi := (h.rng (id, lv) (by simp)).1
 have HM := veil (may_ok h hi)
 obtain ⟨l, t, _, e1, _, ht, _⟩ := h.link hi
 obtain ⟨cp, e0⟩ := h.sl
 have hn := h.len_le.2
 have tt : t = true := by
  cases t with
  | true => rfl
  | false => exact absurd rfl ((ht rfl).2 (id, lv) (by simp))
 subst tt
 clear h ht
 go_enter Tryz.func216, Tryz.ntmps216
 go_wp2_with (go_at_call 212; refine (HM.out).mono ?_; rintro e w' ⟨rfl, hw⟩; subst hw)
 go_ret
 exact ⟨rfl, rfl⟩
theorem remove_none (h : IsQ w b g n R) (hi : id < n) (hid : ∀ it ∈ R, it.1 ≠ id) :
  Calls Tryz.prog 193 #[.pointer (some ⟨b, 0, none⟩), .int .i64 id] w fun e w' => e = .returned (.int .i64 6) ∧ w' = w := by
 have HM := veil (may_ok h hi)
 obtain ⟨l, t, _, e1, ht, _, _⟩ := h.link hi
 obtain ⟨cp, e0⟩ := h.sl
 have hn := h.len_le.2
 have tt : t = false := by
  cases t with
  | false => rfl
  | true => exact absurd rfl (hid _ (ht rfl))
 subst tt
 clear h ht hid
 go_enter Tryz.func193, Tryz.ntmps193
 go_wp2_with (go_at_call 212; refine (HM.out).mono ?_; rintro e w' ⟨rfl, hw⟩; subst hw)
 go_ret
 exact ⟨rfl, rfl⟩
theorem remove_some (h : IsQ w b g n (R1 ++ (id, lv) :: R2)) :
  Calls Tryz.prog 193 #[.pointer (some ⟨b, 0, none⟩), .int .i64 id] w fun e w' => e = .returned (.int .i64 0) ∧ IsQ w' b g n (R1 ++ R2) ∧ Only b g w w' := by
 have hi := (h.rng (id, lv) (by simp)).1
 have HM := veil (may_ok h hi)
 have HU := veil (untie_any w b g n R1 R2 id lv h)
 obtain ⟨l, t, _, e1, _, ht, _⟩ := h.link hi
 obtain ⟨cp, e0⟩ := h.sl
 have hn := h.len_le.2
 have tt : t = true := by
  cases t with
  | true => rfl
  | false => exact absurd rfl ((ht rfl).2 (id, lv) (by simp))
 subst tt
 clear h ht
 go_enter Tryz.func193, Tryz.ntmps193
 go_wp2_with (first
  | (go_at_call 212; refine (HM.out).mono ?_; rintro e w' ⟨rfl, hw⟩; replace hw := hw.symm; subst hw)
  | (go_at_call 214; refine (HU.out).mono ?_; rintro e w' ⟨rfl, hq, ho⟩; have HQ := veil hq; have HO := veil ho; clear hq ho))
 go_ret
 exact ⟨rfl, HQ.out, HO.out⟩
theorem level_none (h : IsQ w b g n R) (hi : id < n) (hid : ∀ it ∈ R, it.1 ≠ id) :
  Calls Tryz.prog 191 #[.pointer (some ⟨b, 0, none⟩), .int .i64 id] w fun e w' => e = .returned (.tuple #[.int .u8 0, .bool false]) ∧ Below w.heap.size w w' := by
 have HM := veil (may_ok h hi)
 obtain ⟨l, t, e2, e1, ht, ht', x, y, e3, e4⟩ := h.link hi
 obtain ⟨cp, e0⟩ := h.sl
 have hn := h.len_le.2
 have tt : t = false := by
  cases t with
  | false => rfl
  | true => exact absurd rfl (hid _ (ht rfl))
 subst tt
 obtain ⟨rfl, _⟩ := ht' rfl
 clear h ht hid ht'
 go_enter Tryz.func191, Tryz.ntmps191
 go_wp2_with (go_at_call 212; refine (HM.out).mono ?_; rintro e w' ⟨rfl, hw⟩; replace hw := hw.symm; subst hw)
 go_quiet (fail)
 go_wp2
 go_ret2
 exact ⟨rfl, below_drewN ((Below.refl _ _).alloc (Nat.le_refl _) _) _⟩
theorem level_some (h : IsQ w b g n (R1 ++ (id, lv) :: R2)) :
  Calls Tryz.prog 191 #[.pointer (some ⟨b, 0, none⟩), .int .i64 id] w fun e w' => e = .returned (.tuple #[.int .u8 lv, .bool true]) ∧ Below w.heap.size w w' := by
 have hi := (h.rng (id, lv) (by simp)).1
 have HM := veil (may_ok h hi)
 obtain ⟨l, t, e2, e1, ht, ht', x, y, e3, e4⟩ := h.link hi
 obtain ⟨cp, e0⟩ := h.sl
 have hn := h.len_le.2
 have tt : t = true := by
  cases t with
  | true => rfl
  | false => exact absurd rfl ((ht' rfl).2 (id, lv) (by simp))
 subst tt
 have hl : l = lv := by
  have hm := ht rfl
  obtain ⟨hn, F, L, m, c, A, B, V, T, hr, hv⟩ := h
  have a1 := hv.lev _ hm
  have a2 := hv.lev (id, lv) (by simp)
  simp only at a1 a2
  omega
 subst hl
 clear h ht ht'
 go_enter Tryz.func191, Tryz.ntmps191
 go_wp2_with (go_at_call 212; refine (HM.out).mono ?_; rintro e w' ⟨rfl, hw⟩; replace hw := hw.symm; subst hw)
 go_quiet (fail)
 go_wp2
 go_ret2
 exact ⟨rfl, below_drewN ((Below.refl _ _).alloc (Nat.le_refl _) _) _⟩
end
end Go.Proofs.YtjlbmmiomfpgiaaGreatDoor.Bq
namespace Go.Proofs.YtjlbmmiomfpgiaaGreatDoor.Bq
set_option maxRecDepth 100000
open Go.RowKit Go.Lib
theorem IsQ.ids {w : World} {b g n : Nat} {R : List (Nat × Nat)} (h : IsQ w b g n R) : (R.map (·.1)).Nodup := by
 obtain ⟨hn, F, L, m, c, A, B, V, T, hr, hv⟩ := h
 exact hv.ids
set_option maxHeartbeats 1000000 in
theorem top_none (w : World) (b g n : Nat) (h : IsQ w b g n []) :
  Calls Tryz.prog 210 #[.pointer (some ⟨b, 0, none⟩)] w fun e w' => e = .returned (.tuple #[.int .u8 0, .int .i64 0, .bool false]) ∧ Below w.heap.size w w' := by
 obtain ⟨m0, m1, m2, m3, hM, hH⟩ := mask_none w b g n h
 have HM := veil hM
 have HH := veil hH
 clear hM hH h
 go_enter Tryz.func210, Tryz.ntmps210
 go_wp2_with (first
  | (go_at_call 227; refine (HM.out).mono ?_; rintro e w' ⟨rfl, d, hw⟩; subst hw)
  | (go_at_call 226; refine (HH.out _).mono ?_; rintro e w' ⟨rfl, d2, hw⟩; subst hw))
 go_ret3
 exact ⟨rfl, ((Below.refl _ _).alloc (Nat.le_refl _) _).alloc (by simp) _⟩
end Go.Proofs.YtjlbmmiomfpgiaaGreatDoor.Bq
