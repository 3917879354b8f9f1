/-
  prog: a reader's number walked.
-/
import Derived.Test.YtnnpbbiiapipaaaO12
import Derived.Lib.EndianBits
namespace Go.Proofs.Ytnnpbbiiapipaaa
open Go.RowKit Go.Lib
set_option linter.unusedVariables false

theorem or8 (y x : Nat) (hy : y < 16777216) (hx : x < 256) : bits .or .i64 ((y : Int) * 256) (x : Int) = (y : Int) * 256 + (x : Int) := by
  refine bits_join .i64 63 (by decide) (fun n h0 h1 => by simp [IntKind.wrap, IntKind.bits, IntKind.signed]; omega) 8 _ _ (by omega) (by omega) (by omega) (by omega) (by omega) (by omega)
/-- Too little is left: it panics, and nothing has changed. -/
theorem number_cut (w : World) (rb : Nat) (a : Option Addr) (len cap size : Nat) (hr : w.cell? ⟨rb, 0, none⟩ = some (.slice a len cap)) (h : len < size) (hs : size ≤ 3) :
    Calls Try.prog 49 #[.pointer (some ⟨rb, 0, none⟩), .int .i64 (size : Int)] w fun e w' => e = .panicked [{ v := .iface 83 (.agg #[]), recovered := false }] ∧ w' = w := by
  have h' : (len : Int) < (size : Int) := by omega
  go_enter Try.func49, Try.ntmps49
  go_wp2
  simp [bodyPost]

set_option maxRecDepth 100000 in
theorem number1 (w : World) (rb lb off len cap : Nat) (x : Nat) (hx : x < 256) (hr : w.cell? ⟨rb, 0, none⟩ = some (.slice (some ⟨lb, off, none⟩) len cap)) (hf : w.frozen? ⟨rb, 0, none⟩ = false) (hl : 1 ≤ len) (hc : len ≤ cap) (hcap : cap < 9223372036854775808)
    (h0 : w.cell? ⟨lb, off, none⟩ = some (.int .u8 (x : Int))) :
    Calls Try.prog 49 #[.pointer (some ⟨rb, 0, none⟩), .int .i64 1] w fun e w' => e = .returned (.int .i64 (x : Int)) ∧ ∃ a, w' = w.setCell ⟨rb, 0, none⟩ (.slice (some a) (len - 1) (cap - 1)) ∧ (1 < len → a = ⟨lb, off + 1, none⟩) := by
  have hl' : ¬ (len : Int) < 1 := by omega
  have hor : bits .or .i64 0 (x : Int) = (x : Int) := by have := or8 0 x (by omega) hx; simpa using this
  have hc' : 1 ≤ (cap : Int) := by omega
  go_enter Try.func49, Try.ntmps49
  go_wp2
  go_loopw [5, 24] (fun s i wr => wr = w ∧ ((s = .int .i64 0 ∧ i = .int .i64 0) ∨ (s = .int .i64 (x : Int) ∧ i = .int .i64 1))) (fun _ i _ => 1 - (intOf i).toNat)
  case atStart => exact ⟨rfl, .inl ⟨rfl, rfl⟩⟩
  case round =>
    obtain ⟨rfl, hcase⟩ := hrel
    rcases hcase with ⟨rfl, rfl⟩ | ⟨rfl, rfl⟩
    · go_wp2
      go_roundw
      case rel => exact ⟨trivial, .inr ⟨rfl, rfl⟩⟩
      case measure => decide
    · by_cases hcc : cap = 1
      · subst hcc
        obtain rfl : len = 1 := by omega
        go_wp2
        go_ret
        exact ⟨rfl, _, rfl, fun h => by omega⟩
      · have hcc' : ¬ (cap : Int) = 1 := by omega
        go_wp2
        go_ret
        exact ⟨rfl, _, rfl, fun _ => rfl⟩

set_option maxRecDepth 100000 in
theorem number3 (w : World) (rb lb off len cap : Nat) (x0 x1 x2 : Nat) (hx0 : x0 < 256) (hx1 : x1 < 256) (hx2 : x2 < 256) (hr : w.cell? ⟨rb, 0, none⟩ = some (.slice (some ⟨lb, off, none⟩) len cap)) (hf : w.frozen? ⟨rb, 0, none⟩ = false) (hl : 3 ≤ len) (hc : len ≤ cap) (hcap : cap < 9223372036854775808)
    (h0 : w.cell? ⟨lb, off, none⟩ = some (.int .u8 (x0 : Int))) (h1 : w.cell? ⟨lb, off + 1, none⟩ = some (.int .u8 (x1 : Int))) (h2 : w.cell? ⟨lb, off + 2, none⟩ = some (.int .u8 (x2 : Int))) :
    Calls Try.prog 49 #[.pointer (some ⟨rb, 0, none⟩), .int .i64 3] w fun e w' => e = .returned (.int .i64 ((x0 * 65536 + x1 * 256 + x2 : Nat) : Int)) ∧ ∃ a, w' = w.setCell ⟨rb, 0, none⟩ (.slice (some a) (len - 3) (cap - 3)) ∧ (3 < len → a = ⟨lb, off + 3, none⟩) := by
  have hl' : ¬ (len : Int) < 3 := by omega
  have hor0 : bits .or .i64 0 (x0 : Int) = (x0 : Int) := by have := or8 0 x0 (by omega) hx0; simpa using this
  have hor1 : bits .or .i64 ((x0 : Int) * 256) (x1 : Int) = (x0 : Int) * 256 + (x1 : Int) := or8 x0 x1 (by omega) hx1
  have hor2 : bits .or .i64 (((x0 : Int) * 256 + (x1 : Int)) * 256) (x2 : Int) = ((x0 : Int) * 256 + (x1 : Int)) * 256 + (x2 : Int) := by
    have := or8 (x0 * 256 + x1) x2 (by omega) hx2
    simpa using this
  have hc' : 3 ≤ (cap : Int) := by omega
  go_enter Try.func49, Try.ntmps49
  go_wp2
  go_loopw [5, 24] (fun s i wr => wr = w ∧ ((s = .int .i64 0 ∧ i = .int .i64 0) ∨ (s = .int .i64 (x0 : Int) ∧ i = .int .i64 1) ∨ (s = .int .i64 ((x0 : Int) * 256 + (x1 : Int)) ∧ i = .int .i64 2) ∨ (s = .int .i64 (((x0 : Int) * 256 + (x1 : Int)) * 256 + (x2 : Int)) ∧ i = .int .i64 3))) (fun _ i _ => 3 - (intOf i).toNat)
  case atStart => exact ⟨rfl, .inl ⟨rfl, rfl⟩⟩
  case round =>
    obtain ⟨rfl, hcase⟩ := hrel
    rcases hcase with ⟨rfl, rfl⟩ | ⟨rfl, rfl⟩ | ⟨rfl, rfl⟩ | ⟨rfl, rfl⟩
    · go_wp2
      go_roundw
      case rel => exact ⟨trivial, .inr (.inl ⟨rfl, rfl⟩)⟩
      case measure => decide
    · go_wp2
      go_roundw
      case rel => exact ⟨trivial, .inr (.inr (.inl ⟨rfl, rfl⟩))⟩
      case measure => decide
    · go_wp2
      go_roundw
      case rel => exact ⟨trivial, .inr (.inr (.inr ⟨rfl, rfl⟩))⟩
      case measure => decide
    · by_cases hcc : cap = 3
      · subst hcc
        obtain rfl : len = 3 := by omega
        go_wp2
        go_ret
        refine ⟨?_, _, rfl, fun h => by omega⟩
        show Ending.returned (.int .i64 (((x0 : Int) * 256 + (x1 : Int)) * 256 + (x2 : Int))) = _
        congr 2
        omega
      · have hcc' : ¬ (cap : Int) = 3 := by omega
        go_wp2
        go_ret
        refine ⟨?_, _, rfl, fun _ => rfl⟩
        show Ending.returned (.int .i64 (((x0 : Int) * 256 + (x1 : Int)) * 256 + (x2 : Int))) = _
        congr 2
        omega

theorem end_ok (w : World) (rb : Nat) (a : Option Addr) (cap : Nat) (hr : w.cell? ⟨rb, 0, none⟩ = some (.slice a 0 cap)) :
    Calls Try.prog 50 #[.pointer (some ⟨rb, 0, none⟩)] w fun e w' => e = .returned (.tuple #[]) ∧ w' = w := by
  go_enter Try.func50, Try.ntmps50
  go_wp2
  go_end0
  exact ⟨rfl, rfl⟩
theorem end_more (w : World) (rb : Nat) (a : Option Addr) (len cap : Nat) (hl : 0 < len) (hr : w.cell? ⟨rb, 0, none⟩ = some (.slice a len cap)) :
    Calls Try.prog 50 #[.pointer (some ⟨rb, 0, none⟩)] w fun e w' => e = .panicked [{ v := .iface 83 (.agg #[]), recovered := false }] ∧ w' = w := by
  have hl' : 0 < (len : Int) := by omega
  go_enter Try.func50, Try.ntmps50
  go_wp2
  simp [bodyPost]
end Go.Proofs.Ytnnpbbiiapipaaa
