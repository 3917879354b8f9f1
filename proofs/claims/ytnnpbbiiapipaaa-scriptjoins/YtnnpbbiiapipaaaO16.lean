/-
  prog: read's deferred closure, in a frame that panics and in one that returns.
-/
import Derived.Test.YtnnpbbiiapipaaaO15
import Derived.Defers
import Derived.Recover
import Derived.Laws.Pointers
namespace Go.Proofs.Ytnnpbbiiapipaaa
open Go.RowKit Go.Lib

theorem catch_panicking (p : Addr) (x : Value) (older : List PanicEntry) (w : World) (hc : w.cell? p = some x) (hz : w.frozen? p = false) (hs : ∃ a l c, x = .slice a l c) :
    CallsD Try.prog 48 #[.pointer (some p)] (.panicking ({ v := .iface 83 (.agg #[]), recovered := false } :: older)) w fun e u' w' =>
      e = .returned (.tuple #[]) ∧ u' = .panicking ({ v := .iface 83 (.agg #[]), recovered := true } :: older) ∧ w' = (w.alloc (.cells #[] 83)).setCell p (.slice none 0 0) := by
  refine callsD_of_wpS Try.func48 rfl fun c₀ cs hu => ?_
  apply wpS_seq
  apply wpS_region
  simp [wpOpsS, go_sem, recoverD, hu, Try.ntmps48, Exit.thenS]
  obtain ⟨a, l, c, rfl⟩ := hs
  refine wpS_of_wp ?_
  have ht : (#[Value.pointer (some p)] ++ (Array.replicate 9 undef).setIfInBounds 3 (.iface 83 (.agg #[]))) = #[.pointer (some p), undef, undef, undef, (.iface 83 (.agg #[])), undef, undef, undef, undef, undef] := rfl
  rw [ht]
  have hta : (Instr.typeAssert (.iface 83 (.agg #[])) 20 83 true).run Try.prog w = .ok (.tuple #[.agg #[], .bool true]) w := by kernel_rfl
  have hb := Below.refl w.heap.size w
  have hb2 := hb.alloc (Nat.le_refl _) (.cells #[] 83)
  have hlt := World.block_lt_of_cell? w _ hc
  have hc2 := (hb2.cell (p := p) hlt).trans hc
  have hz2 : (w.alloc (.cells #[] 83)).frozen? p = false := by
    rw [← hz]
    unfold World.frozen?
    rw [Below.heap_alloc _ _ _ hlt]
  clear hb hb2 ht
  go_wp2
  cases c₀
  simp_all [bodyPostS, results, Try.results48]

theorem catch_idle (p : Addr) (w : World) :
    CallsD Try.prog 48 #[.pointer (some p)] .returning w fun e u' w' => e = .returned (.tuple #[]) ∧ u' = .returning ∧ w' = w := by
  refine callsD_of_wpS Try.func48 rfl fun c₀ cs hu => ?_
  apply wpS_seq
  apply wpS_region
  simp [wpOpsS, go_sem, recoverD, hu, Try.ntmps48, Exit.thenS]
  refine wpS_of_wp ?_
  have ht : (#[Value.pointer (some p)] ++ (Array.replicate 9 undef).setIfInBounds 3 .nilIface) = #[.pointer (some p), undef, undef, undef, .nilIface, undef, undef, undef, undef, undef] := rfl
  rw [ht]
  go_wp2
  cases c₀
  simp_all [bodyPostS, results, Try.results48]
end Go.Proofs.Ytnnpbbiiapipaaa
