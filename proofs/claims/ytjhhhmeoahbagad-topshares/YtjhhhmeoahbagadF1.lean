/-
  Facts on the bits of floats, of no program: which words are numbers, what a number is to itself, that one by a number is a number.
-/
import Derived.Laws.FloatArith
import Derived.Test.YtjhhhmeoahbagadRows
namespace Go.Proofs.Ytjhhhmeoahbagad
open Go

/-- The word is a number or an infinity. -/
def Num (x : Nat) : Prop := (Ieee.double.read x).isNaN = false

theorem dbl_sign : Ieee.double.signWeight = 9223372036854775808 := by decide +kernel
theorem dbl_binade : Ieee.double.binade = 4503599627370496 := by decide +kernel
theorem dbl_inf : Ieee.double.infRung = 9218868437227405312 := by decide +kernel
theorem dbl_least : Ieee.double.leastPlace = -1074 := by decide +kernel
theorem dbl_width : 2 ^ Ieee.double.width = 18446744073709551616 := by decide +kernel

theorem order_self (d : Ieee.Datum) (h : d.isNaN = false) : d.order d = some .eq := by
  cases d with
  | number s m i => simp [Ieee.Datum.order, compare, compareOfLessAndEq]
  | infinity s => simp [Ieee.Datum.order, compare, compareOfLessAndEq]
  | nan s t => simp [Ieee.Datum.isNaN] at h

theorem order_nan_left (d d' : Ieee.Datum) (h : d.isNaN = true) : d.order d' = none := by
  cases d with
  | number s m i => simp [Ieee.Datum.isNaN] at h
  | infinity s => simp [Ieee.Datum.isNaN] at h
  | nan s t => simp [Ieee.Datum.order]

theorem num_self (x : Nat) (h : Num x) : FloatKind.f64.format.order x x = some .eq := order_self _ h
theorem nan_self (x y : Nat) (h : ¬ Num x) : FloatKind.f64.format.order x y = none :=
  order_nan_left _ _ (by unfold Num at h; show (Ieee.double.read x).isNaN = true; simpa using h)

theorem num_word (neg : Bool) (rung : Nat) (h : rung ≤ 9218868437227405312) : Num (Ieee.double.word neg rung) := by
  have e : Ieee.double.word neg rung % 9223372036854775808 = rung := by
    unfold Ieee.Format.word; rw [dbl_sign]; split <;> omega
  unfold Num Ieee.Format.read
  simp only [dbl_sign, dbl_binade, dbl_inf, e]
  split
  · rfl
  · split
    · rfl
    · rw [if_pos (by omega)]; rfl

theorem num_write (d : Ieee.Datum) (h : d.isNaN = false) : Num (Ieee.double.write d) := by
  cases d with
  | number s m i =>
    unfold Ieee.Format.write Ieee.Format.nearest
    dsimp only
    split
    · exact num_word _ _ (by omega)
    · exact num_word _ _ (by rw [dbl_inf]; exact Nat.min_le_right _ _)
  | infinity s => exact num_word _ _ (by rw [dbl_inf]; exact Nat.le_refl _)
  | nan s t => simp [Ieee.Datum.isNaN] at h

theorem quotient_num {k : Nat} {x y d : Ieee.Datum} (h : x.quotient k y = some d) : d.isNaN = false := by
  unfold Ieee.Datum.quotient at h
  split at h
  all_goals first | (cases h; done) | skip
  all_goals first | (cases h; rfl) | skip
  split at h
  · split at h
    · cases h
    · cases h; rfl
  · cases h; rfl

theorem quo_num {x y r : Nat} (h : floatBits .quo .f64 x y = some r) : Num r := by
  have h' : (((Ieee.double.read x).quotient (Ieee.double.fractionBits + 2) (Ieee.double.read y)).map Ieee.double.write) = some r := h
  rw [Option.map_eq_some_iff] at h'
  obtain ⟨d, hd, rfl⟩ := h'
  exact num_write d (quotient_num hd)

theorem read_one : Ieee.double.read 4607182418800017408 = .number false 4503599627370496 (-52) := by decide +kernel

theorem one_by (x : Nat) (h : Num x) : ∃ q, floatBits .quo .f64 4607182418800017408 x = some q := by
  show ∃ q, (((Ieee.double.read 4607182418800017408).quotient (Ieee.double.fractionBits + 2) (Ieee.double.read x)).map Ieee.double.write) = some q
  rw [read_one]
  unfold Num at h
  cases hx : Ieee.double.read x with
  | number s m i =>
    unfold Ieee.Datum.quotient
    dsimp only
    split
    · exact ⟨_, rfl⟩
    · exact ⟨_, rfl⟩
  | infinity s => exact ⟨_, rfl⟩
  | nan s t => rw [hx] at h; simp [Ieee.Datum.isNaN] at h

/-- What the model hands out for what is no number. -/
def nanOf (w : World) (x y : Nat) : Nat := Question.cut (.nanBits .f64 x y) (w.tape w.drawn (.nanBits .f64 x y))
theorem nanOf_nan (w : World) (x y : Nat) : ¬ Num (nanOf w x y) := by
  unfold nanOf Num
  simp only [Question.cut]
  generalize w.tape w.drawn (.nanBits .f64 x y) = t
  have h1 : t % 2 < 2 := Nat.mod_lt _ (by decide)
  have h2 : t / 2 % (2 ^ 52 - 1) < 2 ^ 52 - 1 := Nat.mod_lt _ (by decide)
  generalize t % 2 = a at *
  generalize t / 2 % (2 ^ 52 - 1) = b at *
  simp only [show (2 : Nat) ^ 63 = 9223372036854775808 from rfl, show (2 : Nat) ^ 52 - 1 = 4503599627370495 from rfl] at *
  have e : (a * 9223372036854775808 + 9218868437227405312 + 1 + b) % 9223372036854775808 = 9218868437227405312 + 1 + b := by omega
  unfold Ieee.Format.read
  simp only [dbl_sign, dbl_binade, dbl_inf, e]
  rw [if_neg (by omega), if_neg (by omega), if_neg (by omega)]
  simp [Ieee.Datum.isNaN]

section
variable {P : Program} (w : World)
theorem run_float_nan (t : TypeId) (x y : Nat) (h : floatBits .quo .f64 x y = none) : (binOp .quo t (.float .f64 x) (.float .f64 y)).run P w = .ok (.float .f64 (nanOf w x y)) w.drew := by
  have h' : FloatKind.f64.format.div x y = none := h
  simp [binOp, Op.floatArith, h', choose, nanOf]
  rfl
end
end Go.Proofs.Ytjhhhmeoahbagad
