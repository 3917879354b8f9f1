/-
  age: Next, its deferred closure.
-/
import Derived.Test.YtfbgnijjdkfbdaaA2
import Derived.Below
import Derived.Carry
namespace Go.Proofs.Ytfbgnijjdkfbdaa
open Go.RowKit
set_option linter.unusedVariables false

/-- The world behind the closure that has recovered. -/
def caught (w : World) (p q : Addr) : World := ((w.alloc (.cells #[] 38)).setCell p (.int .u64 0)).setCell q (.bool false)

theorem catch_panicking (p q : Addr) (older : List PanicEntry) (w : World) (hc : w.cell? p = some (.int .u64 0)) (hz : w.frozen? p = false) (hcq : w.cell? q = some (.bool false)) (hzq : w.frozen? q = false) (hne : p ≠ q) :
    CallsD Try.prog 16 #[.pointer (some p), .pointer (some q)] (.panicking ({ v := .iface 38 (.agg #[]), recovered := false } :: older)) w fun e u' w' =>
      e = .returned (.tuple #[]) ∧ u' = .panicking ({ v := .iface 38 (.agg #[]), recovered := true } :: older) ∧ w' = caught w p q := by
  unfold caught
  refine callsD_of_wpS Try.func16 rfl fun c₀ cs hu => ?_
  apply wpS_seq
  apply wpS_region
  simp [wpOpsS, go_sem, recoverD, hu, Try.ntmps16, Exit.thenS]
  refine wpS_of_wp ?_
  have ht : (#[Value.pointer (some p), Value.pointer (some q)] ++ (Array.replicate 9 undef).setIfInBounds 3 (.iface 38 (.agg #[]))) = #[.pointer (some p), .pointer (some q), undef, undef, undef, (.iface 38 (.agg #[])), undef, undef, undef, undef, undef] := rfl
  rw [ht]
  have hta : (Instr.typeAssert (.iface 38 (.agg #[])) 20 38 true).run Try.prog w = .ok (.tuple #[.agg #[], .bool true]) w := by kernel_rfl
  have hb := Below.refl w.heap.size w
  have hb2 := hb.alloc (Nat.le_refl _) (.cells #[] 38)
  have hlt := World.block_lt_of_cell? w _ hc
  have hltq := World.block_lt_of_cell? w _ hcq
  have hc2 := (hb2.cell (p := p) hlt).trans hc
  have hcq2 := (hb2.cell (p := q) hltq).trans hcq
  have hz2 : (w.alloc (.cells #[] 38)).frozen? p = false := by
    rw [← hz]
    unfold World.frozen?
    rw [Below.heap_alloc _ _ _ hlt]
  have hzq2 : (w.alloc (.cells #[] 38)).frozen? q = false := by
    rw [← hzq]
    unfold World.frozen?
    rw [Below.heap_alloc _ _ _ hltq]
  have hcq3 : ((w.alloc (.cells #[] 38)).setCell p (.int .u64 0)).cell? q = some (.bool false) := (World.cell?_setCell_other _ _ _ _ hne).trans hcq2
  clear hb hb2 ht
  go_wp2
  cases c₀
  simp_all [bodyPostS, results, Try.results16]

theorem catch_idle (p q : Addr) (w : World) :
    CallsD Try.prog 16 #[.pointer (some p), .pointer (some q)] .returning w fun e u' w' => e = .returned (.tuple #[]) ∧ u' = .returning ∧ w' = w := by
  refine callsD_of_wpS Try.func16 rfl fun c₀ cs hu => ?_
  apply wpS_seq
  apply wpS_region
  simp [wpOpsS, go_sem, recoverD, hu, Try.ntmps16, Exit.thenS]
  refine wpS_of_wp ?_
  have ht : (#[Value.pointer (some p), Value.pointer (some q)] ++ (Array.replicate 9 undef).setIfInBounds 3 .nilIface) = #[.pointer (some p), .pointer (some q), undef, undef, undef, .nilIface, undef, undef, undef, undef, undef] := rfl
  rw [ht]
  go_wp2
  cases c₀
  simp_all [bodyPostS, results, Try.results16]

theorem next_no (b s n p : Int) (w : World) (hb : Lv b) (hs : Tm s) (hn : Tm n) (hp : Tm p) (h : Never b s n p) :
    Calls Try.prog 10 #[.int .u8 b, .int .u64 s, .int .u64 n, .int .u64 p] w fun e w' => e = .returned (.tuple #[.int .u64 0, .bool false]) ∧ w' = ((w.alloc (.cells #[.int .u64 0] 22)).alloc (.cells #[.bool false] 4)).alloc (.cells #[] 38) := by
  have hmf : ∀ (fn : Fn) (first cap : Array Value) (w : World), (Instr.makeFunc fn first cap).run Try.prog w = .ok (.func fn first cap) w := fun _ _ _ _ => rfl
  have HR := veil (fun w => rise_no b s n p w hb hs hn hp h)
  have hp : ((w.alloc (.cells #[.int .u64 0] 22)).alloc (.cells #[.bool false] 4)).cell? ⟨w.heap.size, 0, none⟩ = some (.int .u64 0) := by simp [go_sem]
  have hq : ((w.alloc (.cells #[.int .u64 0] 22)).alloc (.cells #[.bool false] 4)).cell? ⟨w.heap.size + 1, 0, none⟩ = some (.bool false) := by simp [go_sem]
  have hz : ((w.alloc (.cells #[.int .u64 0] 22)).alloc (.cells #[.bool false] 4)).frozen? ⟨w.heap.size, 0, none⟩ = false := by simp [go_sem]
  have hzq : ((w.alloc (.cells #[.int .u64 0] 22)).alloc (.cells #[.bool false] 4)).frozen? ⟨w.heap.size + 1, 0, none⟩ = false := by simp [go_sem]
  have HP := veil hp
  have HQ := veil hq
  have HZ := veil hz
  have HZQ := veil hzq
  clear hp hq hz hzq
  go_enter_defers Try.func10, Try.ntmps10
  go_wp2_with (go_at_call 17; refine (HR.out _).mono ?_; rintro e w1 ⟨rfl, hw⟩; replace hw := hw.symm; subst hw)
  refine leaves_cons (f := 16) (args := #[.pointer (some ⟨w.heap.size, 0, none⟩), .pointer (some ⟨w.heap.size + 1, 0, none⟩)]) (by simp) (by simp [go_sem]) ?_
  refine (catch_panicking ⟨w.heap.size, 0, none⟩ ⟨w.heap.size + 1, 0, none⟩ [] _ HP.out HZ.out HQ.out HZQ.out (by intro e; simp at e)).mono ?_
  rintro e u' w'' ⟨rfl, rfl, hw⟩
  have hcp : w''.cell? ⟨w.heap.size, 0, none⟩ = some (.int .u64 0) := by rw [hw]; simp [caught, go_sem]
  have hcq : w''.cell? ⟨w.heap.size + 1, 0, none⟩ = some (.bool false) := by rw [hw]; simp [caught, go_sem]
  have HBB : w'' = ((w.alloc (.cells #[.int .u64 0] 22)).alloc (.cells #[.bool false] 4)).alloc (.cells #[] 38) := by
    rw [hw]
    simp [caught, go_sem]
    trace_state
  clear hw
  simp [Leaves, settle, results, Try.results10, go_sem, hcp, hcq]
  exact HBB

theorem next_yes (b s n p : Int) (w : World) (hb : Lv b) (hs : Tm s) (hn : Tm n) (hp : Tm p) (h : ¬ Never b s n p) :
    Calls Try.prog 10 #[.int .u8 b, .int .u64 s, .int .u64 n, .int .u64 p] w fun e w' => e = .returned (.tuple #[.int .u64 (fromN s n + restN s n p), .bool true]) ∧ w' = (w.alloc (.cells #[.int .u64 (fromN s n + restN s n p)] 22)).alloc (.cells #[.bool true] 4) := by
  have hmf : ∀ (fn : Fn) (first cap : Array Value) (w : World), (Instr.makeFunc fn first cap).run Try.prog w = .ok (.func fn first cap) w := fun _ _ _ _ => rfl
  have HR := veil (fun w => rise_ok b s n p w hb hs hn hp h)
  clear h
  generalize fromN s n + restN s n p = t at *
  go_enter_defers Try.func10, Try.ntmps10
  go_wp2_with (go_at_call 17; refine (HR.out _).mono ?_; rintro e w1 ⟨rfl, hw⟩; replace hw := hw.symm; subst hw)
  refine leaves_cons (f := 16) (args := #[.pointer (some ⟨w.heap.size, 0, none⟩), .pointer (some ⟨w.heap.size + 1, 0, none⟩)]) (by simp) (by simp [go_sem]) ?_
  refine (catch_idle ⟨w.heap.size, 0, none⟩ ⟨w.heap.size + 1, 0, none⟩ _).mono ?_
  rintro e u' w'' ⟨rfl, rfl, rfl⟩
  simp [Leaves, settle, results, Try.results10, go_sem]

end Go.Proofs.Ytfbgnijjdkfbdaa
