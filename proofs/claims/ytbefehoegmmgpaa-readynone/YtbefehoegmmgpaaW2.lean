/-
  The walks of math/bits.Mul64 and Len64, of num's products and of the highest bit of the one word that 'live' asks: each answers the plain function named beside it.
-/
import Derived.Test.YtbefehoegmmgpaaW1
import Derived.Laws.MathBits
import Derived.Lib.BitFns
import Derived.Laws.Bits64b
namespace Go.Proofs.Ytbefehoegmmgpaa.Bq
open Go.RowKit Go.Lib

def hiN (a b : Int) : Int := a * b / 18446744073709551616
def loN (a b : Int) : Int := a * b % 18446744073709551616

/-- The lower half of a word, kept by a mask. -/
theorem low_half (z : Int) : bits .and .u64 (z % 18446744073709551616) 4294967295 = z % 18446744073709551616 % 4294967296 :=
  and_low32 _ (by omega) (by omega)

theorem tab_get (i : Nat) (h : i < Lib.len8tab.size) : ((Lib.len8tab[i]).toNat : Int) = (Lib.bitLen i : Int) := by
  have h' : i < 256 := by rw [Lib.len8tab_size] at h; exact h
  have e := Lib.len8_eq ⟨i, h'⟩
  simp only [Lib.len8, Int.toNat_natCast, ByteArray.getElem?_lt' _ _ h, Option.getD_some] at e
  exact e

theorem wrap64_of_in {a : Int} (h : -9223372036854775808 ≤ a) (h' : a < 9223372036854775808) : wrap64 a = a := by
  unfold wrap64; omega
theorem len_fin (x y : Int) (kk : Int) (h : Lib.bitLen y.toNat ≤ 8) (k0 : 0 ≤ kk) (k1 : kk ≤ 56) (e : (Lib.bitLen x.toNat : Int) = kk + (Lib.bitLen y.toNat : Int)) :
    wrap64 (kk + wrap64 (Lib.bitLen y.toNat : Int)) = (Lib.bitLen x.toNat : Int) := by
  rw [wrap64_of_in (a := (Lib.bitLen y.toNat : Int)) (by omega) (by omega), wrap64_of_in (by omega) (by omega), e]
set_option maxHeartbeats 4000000 in
set_option maxRecDepth 100000 in
theorem len64_any (x : Int) (w : World) (h0 : 0 ≤ x) (h1 : x ≤ 18446744073709551615) :
    Calls Try.prog 82 #[.int .u64 x] w fun e w' => e = .returned (.int .i64 (Lib.bitLen x.toNat)) ∧ w' = w := by
  have hsz : Lib.len8tab.size = 256 := Lib.len8tab_size
  go_enter Try.func82, Try.ntmps82
  go_wp2
  all_goals (go_ret; refine ⟨congrArg Ending.returned (congrArg (Value.int IntKind.i64) ?_), rfl⟩)
  all_goals rw [tab_get _ (by omega)]
  · have s := Lib.bitLen_shift56 x.toNat (by omega) (by omega)
    have e : (x / 4294967296 / 65536 / 256).toNat = x.toNat / 72057594037927936 := by omega
    exact len_fin x _ 56 (Lib.bitLen_le8' (x / 4294967296 / 65536 / 256) (by omega) (by omega)) (by decide) (by decide) (by rw [e]; omega)
  · have s := Lib.bitLen_shift48 x.toNat (by omega) (by omega)
    have e : (x / 4294967296 / 65536).toNat = x.toNat / 281474976710656 := by omega
    exact len_fin x _ 48 (Lib.bitLen_le8' (x / 4294967296 / 65536) (by omega) (by omega)) (by decide) (by decide) (by rw [e]; omega)
  · have s := Lib.bitLen_shift40 x.toNat (by omega) (by omega)
    have e : (x / 4294967296 / 256).toNat = x.toNat / 1099511627776 := by omega
    exact len_fin x _ 40 (Lib.bitLen_le8' (x / 4294967296 / 256) (by omega) (by omega)) (by decide) (by decide) (by rw [e]; omega)
  · have s := Lib.bitLen_shift32 x.toNat (by omega) (by omega)
    have e : (x / 4294967296).toNat = x.toNat / 4294967296 := by omega
    exact len_fin x _ 32 (Lib.bitLen_le8' (x / 4294967296) (by omega) (by omega)) (by decide) (by decide) (by rw [e]; omega)
  · have s := Lib.bitLen_shift24 x.toNat (by omega) (by omega)
    have e : (x / 65536 / 256).toNat = x.toNat / 16777216 := by omega
    exact len_fin x _ 24 (Lib.bitLen_le8' (x / 65536 / 256) (by omega) (by omega)) (by decide) (by decide) (by rw [e]; omega)
  · have s := Lib.bitLen_shift16 x.toNat (by omega) (by omega)
    have e : (x / 65536).toNat = x.toNat / 65536 := by omega
    exact len_fin x _ 16 (Lib.bitLen_le8' (x / 65536) (by omega) (by omega)) (by decide) (by decide) (by rw [e]; omega)
  · have s := Lib.bitLen_shift8 x.toNat (by omega) (by omega)
    have e : (x / 256).toNat = x.toNat / 256 := by omega
    exact len_fin x _ 8 (Lib.bitLen_le8' (x / 256) (by omega) (by omega)) (by decide) (by decide) (by rw [e]; omega)
  · have := Lib.bitLen_le8' x h0 (by omega)
    have e : wrap64 (Lib.bitLen x.toNat : Int) = (Lib.bitLen x.toNat : Int) := wrap64_of_in (by omega) (by omega)
    rw [e, e]
end Go.Proofs.Ytbefehoegmmgpaa.Bq
