/- The calls of package key, and the document's, walked for any keys. -/
import Derived.Test.YtbefehoegmmgpaaK1
import Derived.Below
import Derived.Carry
import Derived.WalkKit
namespace Go.Proofs.Ytbefehoegmmgpaa.Ke
open Go.ChangeShapes Go.WideShapes Go.ChangeAt Go.RowKit
set_option linter.unusedVariables false

/-- A key: Edf, Deadline, Level. -/
structure K where
  e : Bool
  d : Int
  l : Int
deriving DecidableEq
def K.ok (k : K) : Prop := (0 ≤ k.d ∧ k.d < 18446744073709551616) ∧ 0 ≤ k.l ∧ k.l < 256
def up (a b : K) : Bool := if a.e != b.e then a.e else if a.e then decide (a.d < b.d) else decide (b.l < a.l)
def fixK (l : Int) : K := ⟨false, 0, l⟩
def deadK (d : Int) : K := ⟨true, d, 0⟩
def rightK (k : K) : Bool := if k.e then k.l == 0 else k.d == 0
def maxK (a b : K) : K := if up b a then b else a
def same (a b : K) : Bool := a.e == b.e && a.d == b.d && a.l == b.l

@[go_sem] theorem buildFix (b : Int) (w : World) : (Instr.build 34 #[(2, .int .u8 b)]).run Try.prog w = .ok (.agg #[.bool false, .int .u64 0, .int .u8 b]) w := run_build w 34 _ _ (by kernel_rfl)
@[go_sem] theorem buildDead (e : Bool) (d : Int) (w : World) : (Instr.build 34 #[(0, .bool e), (1, .int .u64 d)]).run Try.prog w = .ok (.agg #[.bool e, .int .u64 d, .int .u8 0]) w := run_build w 34 _ _ (by kernel_rfl)
theorem eqAgg (e e' : Bool) (d d' l l' : Int) (w : World) : (Op.equalIn 10000 34 (.agg #[.bool e, .int .u64 d, .int .u8 l]) (.agg #[.bool e', .int .u64 d', .int .u8 l'])).run Try.prog w = .ok (e == e' && d == d' && l == l') w := by
  have u3 := Try.underlying32
  have a3 := Try.isAgg32
  have z3 := Try.sizeOf32
  have u4 := Try.underlying4
  have a4 := Try.isAgg4
  have z4 := Try.sizeOf4
  have u5 := Try.underlying5
  have a5 := Try.isAgg5
  have z5 := Try.sizeOf5
  have hS : Try.prog.underlying 34 = some (.struct (Try.prog.fieldsOf 34)) := by kernel_rfl
  rw [show (10000 : Nat) = 9999 + 1 from rfl, run_equalIn_agg w 9999 34 _ _ hS (by kernel_rfl)]
  simp only [Program.fieldsOf, Try.underlying34]
  go_simp
  by_cases h1 : e = e' <;> by_cases h2 : d = d' <;> by_cases h3 : l = l' <;> simp [h1, h2, h3]
@[go_sem high] theorem eqK (a b : K) (w : World) : (Op.equal 34 (.agg #[.bool a.e, .int .u64 a.d, .int .u8 a.l]) (.agg #[.bool b.e, .int .u64 b.d, .int .u8 b.l])).run Try.prog w = .ok (same a b) w := eqAgg _ _ _ _ _ _ w

@[go_sem high] theorem eqB (a b : K) (w : World) : (binOp .eql 34 (.agg #[.bool a.e, .int .u64 a.d, .int .u8 a.l]) (.agg #[.bool b.e, .int .u64 b.d, .int .u8 b.l])).run Try.prog w = .ok (.bool (same a b)) w := by
  simp [binOp, go_sem]

theorem below2 (w : World) (c c' : Array Value) (t t' : TypeId) : Below w.heap.size w ((w.alloc (.cells c t)).alloc (.cells c' t')) := ((Below.refl _ _).alloc (Nat.le_refl _) _).alloc (by simp) _

theorem fixed_ok (w : World) (l : Int) : Calls Try.prog 27 #[.int .u8 l] w fun e w' => e = .returned (.agg #[.bool (fixK l).e, .int .u64 (fixK l).d, .int .u8 (fixK l).l]) ∧ Below w.heap.size w w' := by
  go_enter Try.func27, Try.ntmps27
  go_wp2
  simp [bodyPost, results, Try.results27, go_sem, fixK]
  exact (Below.refl _ _).alloc (Nat.le_refl _) _
theorem dead_ok (w : World) (d : Int) : Calls Try.prog 28 #[.int .u64 d] w fun e w' => e = .returned (.agg #[.bool (deadK d).e, .int .u64 (deadK d).d, .int .u8 (deadK d).l]) ∧ Below w.heap.size w w' := by
  go_enter Try.func28, Try.ntmps28
  go_wp2
  simp [bodyPost, results, Try.results28, go_sem, deadK]
  exact (Below.refl _ _).alloc (Nat.le_refl _) _
theorem above_mk (w : World) (a b : K) : Calls Try.prog 29 #[.agg #[.bool a.e, .int .u64 a.d, .int .u8 a.l], .agg #[.bool b.e, .int .u64 b.d, .int .u8 b.l]] w fun e w' => e = .returned (.bool (up a b)) ∧ ∃ c1 c2, w' = (w.alloc (.cells c1 34)).alloc (.cells c2 34) := by
  unfold up
  go_enter Try.func29, Try.ntmps29
  cases he : a.e <;> cases he' : b.e <;> (go_wp2; go_ret; exact ⟨by simp , _, _, rfl⟩)
theorem above_ok (w : World) (a b : K) : Calls Try.prog 29 #[.agg #[.bool a.e, .int .u64 a.d, .int .u8 a.l], .agg #[.bool b.e, .int .u64 b.d, .int .u8 b.l]] w fun e w' => e = .returned (.bool (up a b)) ∧ Below w.heap.size w w' :=
  (above_mk w a b).mono fun e w' ⟨h, c1, c2, hw⟩ => ⟨h, by rw [hw]; exact below2 _ _ _ _ _⟩
theorem rabove_mk (w : World) (a b : K) : Calls Try.prog 16 #[.agg #[.bool a.e, .int .u64 a.d, .int .u8 a.l], .agg #[.bool b.e, .int .u64 b.d, .int .u8 b.l]] w fun e w' => e = .returned (.bool (up a b)) ∧ ∃ c1 c2, w' = (w.alloc (.cells c1 34)).alloc (.cells c2 34) := by
  unfold up
  go_enter Try.func16, Try.ntmps16
  cases he : a.e <;> cases he' : b.e <;> (go_wp2; go_ret; exact ⟨by simp , _, _, rfl⟩)
theorem rabove_ok (w : World) (a b : K) : Calls Try.prog 16 #[.agg #[.bool a.e, .int .u64 a.d, .int .u8 a.l], .agg #[.bool b.e, .int .u64 b.d, .int .u8 b.l]] w fun e w' => e = .returned (.bool (up a b)) ∧ Below w.heap.size w w' :=
  (rabove_mk w a b).mono fun e w' ⟨h, c1, c2, hw⟩ => ⟨h, by rw [hw]; exact below2 _ _ _ _ _⟩
end Go.Proofs.Ytbefehoegmmgpaa.Ke
