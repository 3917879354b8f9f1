/-
  The walk of a share of a whole that is not 0: it answers the nearest float.
-/
import Derived.Test.YtjhhhmeoahbagabW7
import Derived.Test.YtjhhhmeoahbagabF6
namespace Go.Proofs.Ytjhhhmeoahbagab
open Go.RowKit Go.Lib

def shareW (p q : Int) : Nat := (floatBits .quo .f64 (floatOfInt .f64 p) (floatOfInt .f64 q)).getD 0

theorem share_w (p q : Int) (w : World) (p0 : 0 ≤ p) (p1 : p ≤ 18446744073709551615) (q0 : 1 ≤ q) (q1 : q ≤ 18446744073709551615) :
    Calls Try.prog 14 #[.int .u64 p, .int .u64 q] w fun e w' => e = .returned (.float .f64 (shareW p q)) ∧ w' = w := by
  obtain ⟨a, rfl⟩ := Int.eq_ofNat_of_zero_le p0
  obtain ⟨n, rfl⟩ := Int.eq_ofNat_of_zero_le (show 0 ≤ q by omega)
  obtain ⟨r1, _, h1, _⟩ := share_le a a n (Nat.le_refl _) (by omega) (by omega) (by omega)
  unfold shareW
  rw [h1]
  exact share_ok _ _ _ w h1
theorem shareW_le (a b n : Int) (h0 : 0 ≤ a) (h : a ≤ b) (h1 : b ≤ 18446744073709551615) (q0 : 1 ≤ n) (q1 : n ≤ 18446744073709551615) :
    (FloatKind.f64.format.order (shareW a n) (shareW b n) == some .lt || FloatKind.f64.format.order (shareW a n) (shareW b n) == some .eq) = true := by
  obtain ⟨a, rfl⟩ := Int.eq_ofNat_of_zero_le h0
  obtain ⟨b, rfl⟩ := Int.eq_ofNat_of_zero_le (show 0 ≤ b by omega)
  obtain ⟨n, rfl⟩ := Int.eq_ofNat_of_zero_le (show 0 ≤ n by omega)
  obtain ⟨r1, r2, e1, e2, k1, k2⟩ := share_le a b n (by omega) (by omega) (by omega) (by omega)
  unfold shareW
  rw [e1, e2]
  exact order_le r1 r2 k1 k2
theorem shareW_self (n : Int) (q0 : 1 ≤ n) (q1 : n ≤ 18446744073709551615) : shareW n n = 4607182418800017408 := by
  obtain ⟨n, rfl⟩ := Int.eq_ofNat_of_zero_le (show 0 ≤ n by omega)
  unfold shareW
  rw [share_self n (by omega) (by omega)]; rfl
theorem shareW_zero (n : Int) (q0 : 1 ≤ n) (q1 : n ≤ 18446744073709551615) : shareW 0 n = 0 := by
  obtain ⟨n, rfl⟩ := Int.eq_ofNat_of_zero_le (show 0 ≤ n by omega)
  have hn : n ≠ 0 := by omega
  have hrn := read_int n hn (by omega)
  have hvn : vm (rungOf n 1 0) ≠ 0 := vm_pos _ (by have := int_pos n hn; omega)
  unfold shareW
  rw [zero_float, quo_zero _ _ _ hrn hvn]; rfl
end Go.Proofs.Ytjhhhmeoahbagab
