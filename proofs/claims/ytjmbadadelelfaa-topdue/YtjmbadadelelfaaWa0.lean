/- The map of a wheel's later times, by the function that it is: look-ups, stores, what is deleted. -/
import Derived.Test.YtjmbadadelelfaaWa1
import Derived.WalkKit
import Derived.RowKit3
import Derived.Maps.OwnSet
import Derived.Maps.RangeWalk
namespace Go.Proofs.Ytjmbadadelelfaa
set_option linter.unusedVariables false
set_option linter.unusedSimpArgs false
open Go.RowKit
open Go.Maps (Keyed)

theorem keyU : Keyed Try.prog 30 := Go.Maps.int_keyed Try.underlying30
theorem tight {H : Type} {P : Program} {k : TypeId} {R : Value → Option (DataW H × List MemPlace)} {w : World} {b n : Nat} {D : DataW H} (h : w.ownsMap P k R b n D) {s : Nat} (hs : Maps.size D = s) : w.ownsMap P k R b s D := by
  obtain ⟨es, clock, hb, F, _, rfl⟩ := h
  exact ⟨es, clock, hb, F, by rw [← hs]; simp [Maps.size, DataW.length_sorted], rfl⟩
/-- How a list's ends read. -/
def RL : Value → Option (DataW Unit × List MemPlace)
  | .agg ⟨[.int .i64 a, .int .i64 c]⟩ => some (.agg [.lit (.int .i64 a), .lit (.int .i64 c)], [])
  | _ => none
theorem RL_mk (a c : Int) : RL (.agg #[.int .i64 a, .int .i64 c]) = some (.agg [.lit (.int .i64 a), .lit (.int .i64 c)], []) := rfl
theorem RL_inv {v : Value} {z : DataW Unit × List MemPlace} (h : RL v = some z) : ∃ a c, v = .agg #[.int .i64 a, .int .i64 c] ∧ z = (.agg [.lit (.int .i64 a), .lit (.int .i64 c)], []) := by
  unfold RL at h
  split at h
  · rename_i a c
    exact ⟨a, c, rfl, by simpa using h.symm⟩
  · cases h
/-- Block mb is a map of s entries, and f says what stands where. -/
def IsM (w : World) (mb : Nat) (f : Int → Option (Nat × Nat)) (s : Nat) : Prop :=
  ∃ D : DataW Unit, w.ownsMap Try.prog 30 RL mb s D ∧ (∀ i, Maps.has D (.int .u64 i) = (f i).isSome) ∧ (∀ i c zd, f i = some c → D.atKey (.int .u64 i) zd = .agg [.lit (.int .i64 (c.1 : Int)), .lit (.int .i64 (c.2 : Int))]) ∧ Maps.size D = s
def setF (f : Int → Option (Nat × Nat)) (i : Int) (o : Option (Nat × Nat)) : Int → Option (Nat × Nat) := fun j => if j = i then o else f j
section
variable {w w' : World} {mb s : Nat} {f : Int → Option (Nat × Nat)}
theorem IsM.made (w : World) : IsM (w.alloc (.map #[] 0)) w.heap.size (fun _ => none) 0 :=
  ⟨.map [], World.ownsMap_made w _ _ _, fun _ => rfl, fun i c zd h => (by cases h), rfl⟩
theorem IsM.lt (h : IsM w mb f s) : mb < w.heap.size := by obtain ⟨D, h, _⟩ := h; exact h.lt
theorem IsM.kept {row : Option Nat} (h : IsM w mb f s) (hg : w.grownBy w' row) (hne : some mb ≠ row) : IsM w' mb f s := by
  obtain ⟨D, h1, h2⟩ := h
  exact ⟨D, h1.kept hg hne, h2⟩
theorem IsM.block (h : IsM w mb f s) (hb : w'.heap[mb]? = w.heap[mb]?) : IsM w' mb f s := by
  obtain ⟨D, ⟨es, clock, h0, h1⟩, h2⟩ := h
  exact ⟨D, ⟨es, clock, by rw [hb]; exact h0, h1⟩, h2⟩
theorem zeroList (w : World) : (zeroValue 69).run Try.prog w = .ok (.agg #[.int .i64 0, .int .i64 0]) w := by kernel_rfl
theorem keyI (i : Int) (hi : (Lit.int .u64 i).wf = true) : keyOf Try.prog 30 (.int .u64 i) = some (.int .u64 i) := Go.Maps.keyOf_int_mk Try.underlying30 hi
/-- 'm[k]'. -/
theorem IsM.look (h : IsM w mb f s) (i : Int) (hi : (Lit.int .u64 i).wf = true) :
    (Instr.lookup 71 (.map (some mb)) (.int .u64 i) false).run Try.prog w = .ok (.agg #[.int .i64 (((f i).getD (0, 0)).1 : Int), .int .i64 (((f i).getD (0, 0)).2 : Int)]) w := by
  obtain ⟨D, h1, h2, h3, _⟩ := h
  obtain ⟨v, ps, hr, hv⟩ := h1.lookup keyU (t := 71) (e := 69) Try.underlying71 (zeroList w) (RL_mk 0 0) (keyI i hi)
  rw [hr]
  obtain ⟨a, c, rfl, hz⟩ := RL_inv hv
  have hc' := congrArg Prod.fst hz
  simp only at hc'
  cases hf : f i with
  | none =>
    have hn : Maps.has D (.int .u64 i) = false := by rw [h2 i, hf]; rfl
    rw [Maps.atKey_of_not_has hn] at hc'
    simp at hc'
    rw [← hc'.1, ← hc'.2]
    rfl
  | some c' =>
    rw [h3 i c' _ hf] at hc'
    simp at hc'
    rw [← hc'.1, ← hc'.2]
    rfl
theorem lit_ne {i j : Int} (h : i ≠ j) : (Lit.int .u64 i) ≠ (Lit.int .u64 j) := fun e => h (by injection e)
theorem lit_key (i : Int) : WideAt.IsKeyLit (Lit.int .u64 i) := trivial
/-- 'm[k] = v', at the operation. -/
theorem wpList_store_m {ops : Array Oper} {rest : List Oper} {o : Oper} {a : Act} {Q : Exit → Act → World → Prop} (hg : o.guard = none) (m x v : Operand) (hop : o.op = Op.mapUpdate 71 m x v)
    (h : IsM w mb f s) (hn : s < maxLen) (i : Int) (c : Nat × Nat) (hi : (Lit.int .u64 i).wf = true) (hm : a.eval m = .map (some mb)) (hx : a.eval x = .int .u64 i) (hv : a.eval v = .agg #[.int .i64 (c.1 : Int), .int .i64 (c.2 : Int)])
    (hK : ∀ w', IsM w' mb (setF f i (some c)) (if (f i).isSome then s else s + 1) → w.grownBy w' (some mb) → wpList Try.prog ops Q rest (a.put o.dst undef) w') :
    wpList Try.prog ops Q (o :: rest) a w := by
  obtain ⟨D, h1, h2, h3, h4⟩ := h
  refine wpList_mapUpdate_own w hg m x v 71 hop 30 69 keyU Try.underlying71 RL mb s D hm h1 hn (.int .u64 i) (.agg #[.int .i64 (c.1 : Int), .int .i64 (c.2 : Int)]) (.int .u64 i) hx hv (keyI i hi) (.agg [.lit (.int .i64 (c.1 : Int)), .lit (.int .i64 (c.2 : Int))]) [] (RL_mk (c.1 : Int) (c.2 : Int)) ?_
  intro w' q1 q2
  have hsz : Maps.size (D.put (.int .u64 i) (.agg [.lit (.int .i64 (c.1 : Int)), .lit (.int .i64 (c.2 : Int))])) = if (f i).isSome then s else s + 1 := by rw [Maps.size_put (h1.tidy keyU), h2 i, h4]
  refine hK w' ⟨_, tight q1 hsz, fun j => ?_, fun j c' zd hj => ?_, hsz⟩ q2
  · unfold setF
    by_cases e : j = i
    · subst e
      rw [if_pos rfl, Maps.has_put_same h1.isMap (lit_key _)]
      rfl
    · rw [if_neg e, Maps.has_put_other (lit_ne e), h2 j]
  · unfold setF at hj
    by_cases e : j = i
    · subst e
      rw [if_pos rfl] at hj
      injection hj with hj
      rw [Maps.atKey_put_same h1.isMap (lit_key _), hj]
    · rw [if_neg e] at hj
      rw [Maps.atKey_put_other (lit_ne e)]
      exact h3 j c' zd hj
/-- 'delete(m, k)', at the operation. -/
theorem wpList_delete_m {ops : Array Oper} {rest : List Oper} {o : Oper} {a : Act} {Q : Exit → Act → World → Prop} (hg : o.guard = none) (m x : Operand) (hop : o.op = Op.call { callee := Callee.builtin Builtin.delete, args := #[m, x], argTypes := #[71, 30] })
    (h : IsM w mb f s) (i : Int) (hi : (Lit.int .u64 i).wf = true) (hm : a.eval m = .map (some mb)) (hx : a.eval x = .int .u64 i)
    (hK : ∀ w', IsM w' mb (setF f i none) (if (f i).isSome then s - 1 else s) → w.grownBy w' (some mb) → wpList Try.prog ops Q rest (a.put o.dst (.tuple #[])) w') :
    wpList Try.prog ops Q (o :: rest) a w := by
  obtain ⟨D, h1, h2, h3, h4⟩ := h
  refine wpList_delete_own w hg m x 71 30 hop 69 keyU Try.underlying71 RL mb s D hm h1 (.int .u64 i) (.int .u64 i) hx (keyI i hi) ?_
  intro w' q1 q2
  have hsz : Maps.size (D.del (.int .u64 i)) = if (f i).isSome then s - 1 else s := by
    have := Maps.size_del (k := Lit.int .u64 i) (h1.tidy keyU)
    rw [h2 i, h4] at this
    split <;> simp_all <;> omega
  refine hK w' ⟨_, tight q1 hsz, fun j => ?_, fun j c' zd hj => ?_, hsz⟩ (World.mapTurned.grown q2)
  · unfold setF
    by_cases e : j = i
    · subst e
      rw [if_pos rfl, Maps.has_del_same]
      rfl
    · rw [if_neg e, Maps.has_del_other (lit_ne e), h2 j]
  · unfold setF at hj
    by_cases e : j = i
    · subst e
      rw [if_pos rfl] at hj
      cases hj
    · rw [if_neg e] at hj
      rw [Maps.atKey_del_other (lit_ne e)]
      exact h3 j c' zd hj
end
end Go.Proofs.Ytjmbadadelelfaa
