/-
  exec: Run walked, and the document's.
-/
import Derived.Test.YteknpjjgppmlmaaJ3
namespace Go.Proofs.Yteknpjjgppmlmaa
open Go.RowKit Go.Lib
set_option linter.unusedVariables false

/-- Is there such a place, of a right program? -/
def inP (r : Bool) (len : Nat) (p : Int) : Bool := r && decide (0 ≤ p ∧ p < (len : Int))
def stO (r : Bool) (len : Nat) (O : Nat → Int) (p : Int) : Int := if inP r len p then O p.toNat else 9
def stR (r : Bool) (len : Nat) (R : Nat → Int) (p : Int) : Int := if inP r len p then R p.toNat else 0
def stN (r : Bool) (len : Nat) (O R : Nat → Int) (p : Int) : Int := if inP r len p then nxI (O p.toNat) (R p.toNat) p else p
def stL (r : Bool) (len : Nat) (O R : Nat → Int) (p left : Int) : Int := if inP r len p then lfI (O p.toNat) (R p.toNat) left else left
theorem inP_iff {r : Bool} {len : Nat} {O R : Nat → Int} (hr : r = true ↔ Rt len O R) (p : Int) : inP r len p = true ↔ (Rt len O R ∧ 0 ≤ p ∧ p < len) := by
  simp [inP, hr]

theorem step_any (w : World) (a : Option Addr) (len cap : Nat) (hlen : len < 9223372036854775808) (O R : Nat → Int) (hp : Prg w a len O R) (r : Bool) (hr : r = true ↔ Rt len O R) (p left : Int) (hl : ¬ 0 < left) :
    Calls Try.prog 11 #[.slice a len cap, .agg #[.int .i64 p, .int .i64 left]] w fun e w' => e = .returned (.tuple #[.agg #[.int .i64 (stO r len O p), .int .i64 (stR r len R p)], .agg #[.int .i64 (stN r len O R p), .int .i64 (stL r len O R p left)], .bool false]) ∧ Below w.heap.size w w' := by
  by_cases h : inP r len p = true
  · obtain ⟨h1, h2, h3⟩ := (inP_iff hr p).1 h
    simp only [stO, stR, stN, stL, h, if_true]
    obtain ⟨j, rfl⟩ : ∃ j : Nat, p = j := ⟨p.toNat, by omega⟩
    exact step_yes w a len cap O R hp j left hl h1 (by omega)
  · have h' : inP r len p = false := by simpa using h
    simp only [stO, stR, stN, stL, h', Bool.false_eq_true, if_false]
    exact step_no w a len cap hlen O R hp p left hl (fun q => h ((inP_iff hr p).2 q))
theorem rstep_any (w : World) (a : Option Addr) (len cap : Nat) (hlen : len < 9223372036854775808) (O R : Nat → Int) (hp : Prg w a len O R) (r : Bool) (hr : r = true ↔ Rt len O R) (p left : Int) (hl : ¬ 0 < left) :
    Calls Try.prog 12 #[.slice a len cap, .agg #[.int .i64 p, .int .i64 left]] w fun e w' => e = .returned (.tuple #[.agg #[.int .i64 (stO r len O p), .int .i64 (stR r len R p)], .agg #[.int .i64 (stN r len O R p), .int .i64 (stL r len O R p left)], .bool false]) ∧ Below w.heap.size w w' := by
  by_cases h : inP r len p = true
  · obtain ⟨h1, h2, h3⟩ := (inP_iff hr p).1 h
    simp only [stO, stR, stN, stL, h, if_true]
    obtain ⟨j, rfl⟩ : ∃ j : Nat, p = j := ⟨p.toNat, by omega⟩
    exact rstep_yes w a len cap O R hp j left hl h1 (by omega)
  · have h' : inP r len p = false := by simpa using h
    simp only [stO, stR, stN, stL, h', Bool.false_eq_true, if_false]
    exact rstep_no w a len cap hlen O R hp p left hl (fun q => h ((inP_iff hr p).2 q))

/-- Where a run stands behind so many steps. -/
def plc (r : Bool) (len : Nat) (O R : Nat → Int) : Nat → Int
  | 0 => 0
  | k + 1 => stN r len O R (plc r len O R k)
def ro (r : Bool) (len : Nat) (O R : Nat → Int) (k : Nat) : Int := stO r len O (plc r len O R k)
def ra (r : Bool) (len : Nat) (O R : Nat → Int) (k : Nat) : Int := stR r len R (plc r len O R k)
/-- Was there an Exit? -/
def spd (f : Nat → Int) : Nat → Bool
  | 0 => false
  | k + 1 => spd f k || (f k == 9)
def rlen (f : Nat → Int) : Nat → Nat
  | 0 => 0
  | k + 1 => if spd f k then rlen f k else k + 1
theorem rlen_go {f : Nat → Int} : ∀ {n : Nat}, spd f n = false → rlen f n = n
  | 0, _ => rfl
  | n + 1, h => by
    simp [spd] at h
    simp [rlen, h.1]
theorem spd_up {f : Nat → Int} {k : Nat} (h : spd f k = true) : ∀ d, spd f (k + d) = true
  | 0 => h
  | d + 1 => by show (spd f (k + d) || _) = true; simp [spd_up h d]
theorem rlen_stop {f : Nat → Int} {k : Nat} (h : spd f k = false) (h9 : f k = 9) : ∀ d, rlen f (k + 1 + d) = k + 1
  | 0 => by simp [rlen, h]
  | d + 1 => by
    have : spd f (k + 1 + d) = true := spd_up (by simp [spd, h9]) d
    show (if spd f (k + 1 + d) then rlen f (k + 1 + d) else _) = _
    rw [this, if_pos rfl]
    exact rlen_stop h h9 d

theorem row_lowE {w : World} {base base' : Nat} {e : TypeId} {size : Nat} {v : Value} {n : Nat} {xs : List Value} (h : w.ownsRow base e size v n xs) (hb : base' ≤ base) : w.ownsRow base' e size v n xs := by
  refine ⟨h.1, ?_⟩
  rcases h.2 with h1 | ⟨g, cap, cur, h1, h2, h3⟩
  · exact .inl h1
  · exact .inr ⟨g, cap, cur, h1, Nat.le_trans hb h2, h3⟩
end Go.Proofs.Yteknpjjgppmlmaa
